/- The law FrameSums: for every kind and all bytes it returns true and leaves its arguments as they were; the two package-level tables start as the program's text lays them. Conditions: none. -/
import Derived.Test.YtkjenddmkmlbeaaDoorCards
import Derived.Test.YtkjenddmkmlbeaaDoorTie
import Derived.Test.YtkjenddmkmlbeaaDoorFrameLift
import Derived.Test.YtkjenddmkmlbeaaDoorFrameROpen
namespace Go.Proofs.YtkjenddmkmlbeaaDoor.frame
open Go.ChangeShapes Go.WideShapes Go.ChangeAt Go.RowKit
open Go.Proofs.YtkjenddmkmlbeaaDoor.kit Go.Proofs.YtkjenddmkmlbeaaDoor.own Go.Proofs.YtkjenddmkmlbeaaDoor.fm Go.Proofs.YtkjenddmkmlbeaaDoor.lift
open Go.WideMaps Go.WideElems
set_option linter.unusedVariables false
set_option linter.constructorNameAsVariable false

/-- The text that bytes make. -/
def strN (l : List Nat) : ByteArray := strOfNums (l.map fun n : Nat => (n : Int))
theorem convN {w : World} {v : Value} {ns : List Nat} (h : Bts w v ns) : (convert 22 9 v).run Tryd.prog w = .ok (.string (strN ns)) w := conv_of h _ rfl

/-- What Seal answers, as bytes and an error. -/
def sealE (kind : Nat) (ns : List Nat) : List Nat × Int := if 1048575 < ns.length then ([], 13) else (sealed kind ns, 0)
def SealQ (w : World) (kind : Nat) (ns : List Nat) (e : Ending) (w' : World) : Prop := (∃ v', e = .returned (.tuple #[v', .int .i64 (sealE kind ns).2]) ∧ Bts w' v' (sealE kind ns).1) ∧ Below w.heap.size w w'
theorem bts_nil (w : World) : Bts w (.slice none 0 0) [] := ⟨SlI.nil _ _, by simp, fun n c hv => (by cases hv; rfl), fun a n c hv => (by cases hv; exact Nat.le_refl _)⟩
theorem Seal_q (kind : Nat) (hk : kind < 256) (v : Value) (ns : List Nat) (w : World) (hv : Bts w v ns) (hn : Nib w) : Calls Tryd.prog 7 #[.int .u8 kind, v] w (SealQ w kind ns) := by
  unfold SealQ sealE
  by_cases h : 1048575 < ns.length
  · rw [if_pos h]
    refine (Seal_long kind v ns w hv.1 h).mono ?_
    rintro e w' ⟨rfl, rfl⟩
    exact ⟨⟨_, rfl, bts_nil _⟩, Below.refl _ _⟩
  · rw [if_neg h]
    refine (Seal_ok kind hk v ns w hv hn (by omega)).mono ?_
    rintro e w' ⟨⟨v', rfl, ho⟩, hb⟩
    exact ⟨⟨_, rfl, bts_own ho (sealed_lt kind ns hk hv.2.1)⟩, hb⟩
theorem rSeal_q (kind : Nat) (hk : kind < 256) (v : Value) (ns : List Nat) (w : World) (hv : Bts w v ns) : Calls Tryd.prog 8 #[.int .u8 kind, v] w (SealQ w kind ns) := by
  unfold SealQ sealE
  by_cases h : 1048575 < ns.length
  · rw [if_pos h]
    refine (rSeal_long kind v ns w hv.1 h).mono ?_
    rintro e w' ⟨rfl, rfl⟩
    exact ⟨⟨_, rfl, bts_nil _⟩, Below.refl _ _⟩
  · rw [if_neg h]
    refine (rSeal_ok kind hk v ns w hv (by omega)).mono ?_
    rintro e w' ⟨⟨v', rfl, ho⟩, hb⟩
    exact ⟨⟨_, rfl, bts_own ho (sealed_lt kind ns hk hv.2.1)⟩, hb⟩

/-- What Open answers: the kind, the body, how many bytes, an error. -/
def openE (l : List Nat) : Nat × List Nat × Nat × Int :=
  match openP l with
  | .error er => (0, [], 0, er)
  | .ok (k, b, N) => (k, b, N, 0)
theorem openP_lt {l : List Nat} (h8 : ∀ b ∈ l, b < 256) {k N : Nat} {bd : List Nat} (h : openP l = .ok (k, bd, N)) : k < 256 ∧ ∀ b ∈ bd, b < 256 := by
  unfold openP at h
  split at h
  · cases h
  · split at h
    · injection h with h
      obtain ⟨rfl, rfl, rfl⟩ : _ ∧ _ ∧ _ := ⟨congrArg (·.1) h, congrArg (·.2.1) h, congrArg (·.2.2) h⟩
      exact ⟨byte_at l h8 1, sub_lt _ _ _ h8⟩
    · cases h
def OpenQ (w : World) (l : List Nat) (e : Ending) (w' : World) : Prop := (∃ v', e = .returned (.tuple #[.int .u8 (openE l).1, v', .int .i64 (openE l).2.2.1, .int .i64 (openE l).2.2.2]) ∧ Bts w' v' (openE l).2.1) ∧ Below w.heap.size w w'
theorem open_q {w : World} {l : List Nat} (h8 : ∀ b ∈ l, b < 256) {e : Ending} {w' : World} (h : OpenP w l e w') : OpenQ w l e w' := by
  obtain ⟨hb, h⟩ := h
  unfold OpenQ openE
  cases ho : openP l with
  | error er =>
    rw [ho] at h
    exact ⟨⟨_, h, bts_nil _⟩, hb⟩
  | ok x =>
    obtain ⟨k, bd, N⟩ := x
    rw [ho] at h
    obtain ⟨v', he, hown⟩ := h
    exact ⟨⟨v', he, bts_own hown (openP_lt h8 ho).2⟩, hb⟩
theorem Open_q (v : Value) (l : List Nat) (w : World) (hv : Bts w v l) (hn : Nib w) (hlen : l.length ≤ 140737488355328) : Calls Tryd.prog 11 #[v] w (OpenQ w l) :=
  (Open_any v l w hv hn hlen).mono fun _ _ h => open_q hv.2.1 h
theorem rOpen_q (v : Value) (l : List Nat) (w : World) (hv : Bts w v l) (hlen : l.length ≤ 140737488355328) : Calls Tryd.prog 12 #[v] w (OpenQ w l) :=
  (rOpen_any v l w hv hlen).mono fun _ _ h => open_q hv.2.1 h

set_option maxHeartbeats 8000000 in
set_option maxRecDepth 100000 in
theorem walkSums (kind : Nat) (hk : kind < 256) (v : Value) (ns : List Nat) (w : World) (hv : Bts w v ns) (hlen : ns.length ≤ 140737488351232) (hn : Nib w) (hb : Bru w) :
    Calls Tryd.prog 3 #[.int .u8 kind, v] w fun e w' => e = .returned (.bool true) ∧ Below w.heap.size w w' := by
  have HV := Lib.hid hv; have HN := Lib.hid hn; have HBr := Lib.hid hb; have HK := Lib.hid hk; have HLen := Lib.hid hlen
  clear hv hn hb hk hlen
  go_enter Tryd.func3, Tryd.ntmps3
  go_wp2_with fail
  refine (Seal_q kind HK.out v ns w HV.out HN.out).mono ?_
  rintro e w1 ⟨⟨v1, rfl, h1⟩, hb1⟩
  have HB1 := Lib.hid hb1; have H1 := Lib.hid h1
  clear hb1 h1
  go_wp2_with fail
  refine (rSeal_q kind HK.out v ns w1 (HV.out.keep HB1.out)).mono ?_
  rintro e w2 ⟨⟨v2, rfl, h2⟩, hb2⟩
  have HB2 := Lib.hid (HB1.out.trans (hb2.mono HB1.out.size))
  have hc1 := convN (H1.out.keep hb2); have hc2 := convN h2
  have HN2 := Lib.hid (HN.out.keep HB2.out); have HV2 := Lib.hid (HV.out.keep HB2.out)
  clear hb2 h2 H1 HB1
  generalize (sealE kind ns).2 = er
  generalize strN (sealE kind ns).1 = st at hc1 hc2
  go_wp2_with (first
    | (go_at_call 9; refine (Sum_any _ ns _ HV2.out.1 HV.out.2.1 HN2.out).mono ?_; rintro e w' ⟨rfl, rfl⟩)
    | (go_at_call 10; refine (rSum_any _ ns _ HV2.out.1 HV.out.2.1).mono ?_; rintro e w' ⟨rfl, rfl⟩))
  clear hc1 hc2
  refine (Open_q v ns w2 HV2.out HN2.out (by have := HLen.out; omega)).mono ?_
  rintro e w3 ⟨⟨v3, rfl, h3⟩, hb3⟩
  have HB3 := Lib.hid (HB2.out.trans (hb3.mono HB2.out.size)); have H3 := Lib.hid h3
  have HN3 := Lib.hid (HN.out.keep HB3.out); have HV3 := Lib.hid (HV.out.keep HB3.out)
  clear hb3 h3 HB2 HN2 HV2
  go_wp2_with fail
  refine (rOpen_q v ns w3 HV3.out (by have := HLen.out; omega)).mono ?_
  rintro e w4 ⟨⟨v4, rfl, h4⟩, hb4⟩
  have HB4 := Lib.hid (HB3.out.trans (hb4.mono HB3.out.size))
  have hc3 := convN (H3.out.keep hb4); have hc4 := convN h4
  have HA := Lib.hid (awake_any w4 (HN.out.keep HB4.out) (HBr.out.keep HB4.out))
  clear hb4 h4 H3 HB3 HN3 HV3
  generalize (openE ns).1 = k0
  generalize (openE ns).2.2.1 = n0
  generalize (openE ns).2.2.2 = er2
  generalize strN (openE ns).2.1 = st2 at hc3 hc4
  go_wp2_with fail
  refine HA.out.mono ?_
  rintro e w5 ⟨rfl, hb5⟩
  have HB5 := Lib.hid (HB4.out.trans (hb5.mono HB4.out.size))
  clear hb5 hc3 hc4
  go_wp2
  go_ret
  exact ⟨rfl, HB5.out⟩

theorem readsSums (os : Os) {H : Type} (enc : TypeId × Value → H) : ∃ places, DataW.whole enc Tryd.prog ((laidWorld os).forCall (fun _ _ => 0) ⟨#[], #[.int .u8 0, .slice none 0 0], []⟩).memory Tryd.f3.params.toList Rows.frameSumsSpec.vars false #[Value.int .u8 0, .slice none 0 0].toList 8 = some ([.lit (.int .u8 0), .nil], [], places) :=
  ⟨[], by kernel_rfl⟩

set_option maxRecDepth 100000 in
theorem liftedSums (os : Os) (started : os.Started) (H : Type) (enc : TypeId × Value → H) (F : Stop.Interp) :
    ReturnsInHanded {} Tryd.checked os 3 .any ((OpenSpec.ofChange Rows.frameSumsSpec).preRow enc Tryd.prog Tryd.f3 Rows.frameSumsRow.domain false Rows.frameSumsRow.laid) (((OpenSpec.ofChange Rows.frameSumsSpec).at F).post enc Tryd.prog Tryd.f3 false true false false) := by
  obtain ⟨places, hx⟩ := readsSums os enc
  refine returnsInHanded_of_row (C := Tryd.checked) (s := OpenSpec.ofChange Rows.frameSumsSpec) own started (by kernel_rfl) Tryd.func3
    (witness_row_at (enc := enc) (C := Tryd.checked) false (laidWorld os) #[.int .u8 0, .slice none 0 0] rfl (by kernel_rfl) (by kernel_rfl) (by kernel_rfl)
      (OpenSpec.preRow_of_cond 8 hx (by kernel_rfl) (fun k hk => by cases hk) (by kernel_rfl) (laid_met os _))) ?_
  intro W base args ds gs before hval hW0 _ _ hz hL _ _
  have hW : DataW.Whole enc Tryd.prog Tryd.f3.params.toList Rows.frameSumsSpec.vars false W args.toList ds gs before := hW0
  refine closes (s := Rows.frameSumsSpec) laidOut (by kernel_rfl) 4 Tryd.underlying4 (by kernel_rfl) rfl (fun ds hd => ?_) hW ?_
  · match ds, hd with
    | [_, _], _ => rfl
  · obtain ⟨p, q, hA0, hV, hbefore, hfz, hnd⟩ := hW
    obtain ⟨rfl, rfl⟩ := trodVars_none hV
    have hA : DataW.TrodAll enc Tryd.prog W 0 (fun _ => true) true Tryd.f3.params.toList args.toList ds p := hA0
    have hval' : ∀ (j : Nat) t v, Tryd.f3.params[j]? = some t → args[j]? = some v → Value.okWide Tryd.prog W .any base t v := hval
    have hz' : (DataW.weightsEach Tryd.prog Tryd.f3.params.toList ds).all (· ≤ reachBytes) = true := by
      have h : (DataW.weightsEach Tryd.prog (Tryd.f3.params.toList ++ []) (ds ++ [])).all (· ≤ reachBytes) = true := hz
      rw [List.append_nil, List.append_nil] at h
      exact h
    rw [Tryd.params3] at hA hval' hz'
    obtain ⟨v0, vs0, d0, ds0, p0, q0, hargs, rfl, rfl, h0, r0⟩ := trodAll_cons hA
    obtain ⟨v1, vs1, d1, ds1, p1, q1, rfl, rfl, rfl, h1, r1⟩ := trodAll_cons r0
    obtain ⟨rfl, rfl, rfl⟩ := trodAll_nil r1
    obtain rfl : args = #[v0, v1] := by cases args; simp_all
    obtain ⟨a0, rfl, rfl, rfl, w0⟩ := open_int Tryd.underlying5 (hval' 0 5 v0 rfl rfl) h0
    have hk := u8_pos a0 w0
    obtain ⟨x, rfl⟩ := Int.eq_ofNat_of_zero_le hk.1
    obtain ⟨ns, hv, hlen, _⟩ := bytes_open (hval' 1 22 v1 rfl rfl) h1 (weight hz' (j := 1) rfl rfl)
    exact walkSums x (by omega) v1 ns W hv hlen (nib_of hL) (bru_of hL)

theorem saidSums : Rows.FrameSumsSaid :=
  OpenClaim.holds_of_cond 3 Tryd.f3 rfl rfl rfl rfl rfl rfl rfl ⟨rfl, rfl, rfl, rfl, rfl⟩ rfl rfl rfl rfl rfl (by kernel_rfl) Tryd.func3 (by kernel_rfl)
    (of_decide_eq_true (by kernel_rfl)) (by unfold Func.isWrapper; first | (rw [if_pos (by decide +kernel)]; kernel_rfl) | (rw [if_neg (by decide +kernel)]; exact ⟨rfl, rfl⟩))
    (fun os started H enc _ F => by rw [OpenClaim.pre_eq_preRow]; exact liftedSums os started H enc F)

theorem plainSums (f : FuncId) (fn : Func) (hf : Tryd.pinned.checked.prog.funcNamed "reef/reeflaw03.FrameSums" = some f) (hfn : Tryd.pinned.checked.prog.funcs[f]? = some fn) :
    false = Tryd.pinned.checked.prog.looks [] ∧ ∀ (j : Nat) t, fn.params[j]? = some t → Tryd.pinned.checked.prog.wantsStandIn t = false := by
  obtain rfl : f = 3 := Option.some.inj ((show Tryd.prog.funcNamed "reef/reeflaw03.FrameSums" = some 3 by kernel_rfl).symm.trans hf) |>.symm
  obtain rfl : fn = Tryd.f3 := (Option.some.inj (Tryd.func3.symm.trans hfn)).symm
  refine ⟨by kernel_rfl, fun j t ht => ?_⟩
  rw [Tryd.params3] at ht
  have hm : t ∈ [5, 22] := by simpa using Array.mem_of_getElem? ht
  have hall : ([5, 22].all fun u => !Tryd.prog.wantsStandIn u) = true := by kernel_rfl
  exact (show Tryd.prog.wantsStandIn t = false by simpa using List.all_eq_true.1 hall t hm)

theorem sums_card : Rows.FrameSumsCardSaid :=
  Claim7.holds_tied_plain_at .later [] _ _ _ _ saidSums (fun _ h => by cases h) (by kernel_rfl) (fun _ h => by cases h) frameSums_row_tie rfl ⟨rfl, rfl⟩ (by kernel_rfl) rfl plainSums (by kernel_rfl)

#print axioms sums_card
end Go.Proofs.YtkjenddmkmlbeaaDoor.frame
