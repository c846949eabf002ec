/- The law FrameAll: for all bytes of bulk at most the bound it returns true and leaves its argument as it was; the two package-level tables start as the program's text lays them. -/
import Derived.Test.YtkjenddmkmlbeaaDoorCards
import Derived.Test.YtkjenddmkmlbeaaDoorTie
import Derived.Test.YtkjenddmkmlbeaaDoorFrameAll
namespace Go.Proofs.YtkjenddmkmlbeaaDoor.frame
open Go.ChangeShapes Go.WideShapes Go.ChangeAt Go.RowKit
open Go.Proofs.YtkjenddmkmlbeaaDoor.kit Go.Proofs.YtkjenddmkmlbeaaDoor.own Go.Proofs.YtkjenddmkmlbeaaDoor.fm Go.Proofs.YtkjenddmkmlbeaaDoor.lift
open Go.WideMaps Go.WideElems
set_option linter.unusedVariables false
set_option linter.constructorNameAsVariable false

set_option maxHeartbeats 8000000 in
set_option maxRecDepth 100000 in
theorem walkAll (w : World) (v : Value) (ns : List Nat) (hv : Bts w v ns) (hlen : ns.length ≤ 140737488351232) (hms : ns.length ≤ 1048576) (hn : Nib w) (hb : Bru w) :
    Calls Tryd.prog 4 #[v] w fun e w' => e = .returned (.bool true) ∧ Below w.heap.size w w' := by
  have HV := Lib.hid hv; have HN := Lib.hid hn; have HBr := Lib.hid hb; have HMs := Lib.hid hms
  clear hv hn hb hlen hms
  go_enter Tryd.func4, Tryd.ntmps4
  have HB1 := Lib.hid ((Below.refl w.heap.size w).alloc (Nat.le_refl _) (.cells #[] 5))
  go_wp2_with (at_builtin; refine appS rfl (.tmp 10) (.tmp 11) 22 rfl w.heap.size 5 .u8 1 Tryd.underlying22 infoByte _ [] rfl (own_empty w _ _) _ ns rfl (HV.out.1.keep HB1.out) HV.out.2.2.1 ?_ ?_ HB1.out.size ?_)
  case refine_1 => have := HMs.out; simp [maxLen]; omega
  case refine_2 => have := HMs.out; simp; omega
  case refine_3 =>
    intro v3 w3 ho3 hk3
    replace ho3 : OwnI w3 w.heap.size 5 .u8 v3 ns := ho3
    have HB3 := Lib.hid (HB1.out.trans hk3.toBelow)
    have HO3 := Lib.hid (bts_own ho3 HV.out.2.1)
    clear ho3 hk3 HB1
    go_wp2_with fail
    refine (All_any v3 ns w3 HO3.out (HN.out.keep HB3.out) HMs.out).mono ?_
    rintro e w4 ⟨⟨v4, rfl, ht4⟩, hb4⟩
    have HB4 := Lib.hid (HB3.out.trans (hb4.mono HB3.out.size)); have HT4 := Lib.hid ht4; have HO4 := Lib.hid (HO3.out.keep hb4)
    clear hb4 ht4 HB3 HO3
    go_wp2_with fail
    refine (rAll_any v ns w4 (HV.out.keep HB4.out) HMs.out).mono ?_
    rintro e w5 ⟨⟨v5, rfl, ht5⟩, hb5⟩
    have HB5 := Lib.hid (HB4.out.trans (hb5.mono HB4.out.size)); have HT5 := Lib.hid ht5; have HO5 := Lib.hid (HO4.out.keep hb5); have HT45 := Lib.hid (HT4.out.below hb5)
    clear hb5 ht5 HB4 HO4 HT4
    generalize (allP ns).2.1 = n0
    generalize (allP ns).2.2 = er
    go_wp2_with fail
    refine (texts_any v4 v5 _ _ (allP ns).1 w5 HT45.out HT5.out).mono ?_
    rintro e w6 ⟨rfl, hb6⟩
    have HB6 := Lib.hid (HB5.out.trans (hb6.mono HB5.out.size))
    have hc1 := convN (HO5.out.keep hb6)
    have hc2 := convN (HV.out.keep HB6.out)
    clear hb6 HT45 HT5 HO5 HB5
    generalize strN ns = st at hc1 hc2
    go_wp2_with fail
    refine (awake_any w6 (HN.out.keep HB6.out) (HBr.out.keep HB6.out)).mono ?_
    rintro e w7 ⟨rfl, hb7⟩
    have HB7 := Lib.hid (HB6.out.trans (hb7.mono HB6.out.size))
    clear hb7 hc1 hc2
    go_wp2
    go_ret
    exact ⟨rfl, HB7.out⟩

theorem readsAll (os : Os) {H : Type} (enc : TypeId × Value → H) : ∃ places, DataW.whole enc Tryd.prog ((laidWorld os).forCall (fun _ _ => 0) ⟨#[], #[.slice none 0 0], []⟩).memory Tryd.f4.params.toList Rows.frameAllSpec.vars false (#[.slice none 0 0] : Array Value).toList 8 = some ([.nil], [], places) :=
  ⟨[], by kernel_rfl⟩

set_option maxRecDepth 100000 in
theorem liftedAll (os : Os) (started : os.Started) (H : Type) (enc : TypeId × Value → H) (F : Stop.Interp) :
    ReturnsInHanded {} Tryd.checked os 4 .any ((Rows.OpenSpec.upto Rows.frameAllSpec).preRow enc Tryd.prog Tryd.f4 Rows.frameAllUptoRow.domain false Rows.frameAllUptoRow.laid) (((Rows.OpenSpec.upto Rows.frameAllSpec).at F).post enc Tryd.prog Tryd.f4 false true false false) := by
  obtain ⟨places, hx⟩ := readsAll os enc
  refine returnsInHanded_of_row (C := Tryd.checked) (s := Rows.OpenSpec.upto Rows.frameAllSpec) own started (by kernel_rfl) Tryd.func4
    (witness_row_at (enc := enc) (C := Tryd.checked) false (laidWorld os) #[.slice none 0 0] rfl (by kernel_rfl) (by kernel_rfl) (by kernel_rfl)
      (OpenSpec.preRow_of_cond 8 hx (by kernel_rfl) (fun k hk => by cases hk; kernel_rfl) (by kernel_rfl) (laid_met os _))) ?_
  intro W base args ds gs before hval hW0 _ hcond hz hL _ _
  have hW : DataW.Whole enc Tryd.prog Tryd.f4.params.toList Rows.frameAllSpec.vars false W args.toList ds gs before := hW0
  refine closes (s := Rows.frameAllSpec) laidOut (by kernel_rfl) 4 Tryd.underlying4 (by kernel_rfl) rfl (fun ds hd => ?_) hW ?_
  · match ds, hd with
    | [_], _ => rfl
  · obtain ⟨p, q, hA0, hV, hbefore, hfz, hnd⟩ := hW
    obtain ⟨rfl, rfl⟩ := trodVars_none hV
    have hA : DataW.TrodAll enc Tryd.prog W 0 (fun _ => true) true Tryd.f4.params.toList args.toList ds p := hA0
    have hval' : ∀ (j : Nat) t v, Tryd.f4.params[j]? = some t → args[j]? = some v → Value.okWide Tryd.prog W .any base t v := hval
    have hz' : (DataW.weightsEach Tryd.prog Tryd.f4.params.toList ds).all (· ≤ reachBytes) = true := by
      have h : (DataW.weightsEach Tryd.prog (Tryd.f4.params.toList ++ []) (ds ++ [])).all (· ≤ reachBytes) = true := hz
      rw [List.append_nil, List.append_nil] at h
      exact h
    have hbulk : Rows.uptoBulkAll ds ≤ 1048576 := by
      have h := hcond _ rfl
      rw [List.append_nil] at h
      exact of_decide_eq_true h
    rw [Tryd.params4] at hA hval' hz'
    obtain ⟨v0, vs0, d0, ds0, p0, q0, hargs, rfl, rfl, h0, r0⟩ := trodAll_cons hA
    obtain ⟨rfl, rfl, rfl⟩ := trodAll_nil r0
    obtain rfl : args = #[v0] := by cases args; simp_all
    obtain ⟨ns0, hv0, hlen0, hbk0⟩ := bytes_open (hval' 0 22 v0 rfl rfl) h0 (weight hz' (j := 0) rfl rfl)
    simp only [Rows.uptoBulkAll] at hbulk
    exact walkAll W v0 ns0 hv0 hlen0 (by omega) (nib_of hL) (bru_of hL)

theorem saidAll : Rows.FrameAllUptoSaid :=
  OpenClaim.holds_of_cond 4 Tryd.f4 rfl rfl rfl rfl rfl rfl rfl ⟨rfl, rfl, rfl, rfl, rfl⟩ rfl rfl rfl rfl rfl (by kernel_rfl) Tryd.func4 (by kernel_rfl)
    (of_decide_eq_true (by kernel_rfl)) (by unfold Func.isWrapper; first | (rw [if_pos (by decide +kernel)]; kernel_rfl) | (rw [if_neg (by decide +kernel)]; exact ⟨rfl, rfl⟩))
    (fun os started H enc _ F => by rw [OpenClaim.pre_eq_preRow]; exact liftedAll os started H enc F)

theorem plainAll (f : FuncId) (fn : Func) (hf : Tryd.pinned.checked.prog.funcNamed "reef/reeflaw03.FrameAll" = some f) (hfn : Tryd.pinned.checked.prog.funcs[f]? = some fn) :
    false = Tryd.pinned.checked.prog.looks [] ∧ ∀ (j : Nat) t, fn.params[j]? = some t → Tryd.pinned.checked.prog.wantsStandIn t = false := by
  obtain rfl : f = 4 := Option.some.inj ((show Tryd.prog.funcNamed "reef/reeflaw03.FrameAll" = some 4 by kernel_rfl).symm.trans hf) |>.symm
  obtain rfl : fn = Tryd.f4 := (Option.some.inj (Tryd.func4.symm.trans hfn)).symm
  refine ⟨by kernel_rfl, fun j t ht => ?_⟩
  rw [Tryd.params4] at ht
  have hm : t ∈ [22] := by simpa using Array.mem_of_getElem? ht
  have hall : ([22].all fun u => !Tryd.prog.wantsStandIn u) = true := by kernel_rfl
  exact (show Tryd.prog.wantsStandIn t = false by simpa using List.all_eq_true.1 hall t hm)

theorem cardAll : Rows.FrameAllUptoCardSaid :=
  Claim7.holds_tied_plain_at .later [] _ _ _ _ saidAll (fun _ h => by cases h) (by kernel_rfl) (fun _ h => by cases h) frameAllUpto_row_tie rfl ⟨rfl, rfl⟩ (by kernel_rfl) rfl plainAll (by kernel_rfl)

#print axioms cardAll
end Go.Proofs.YtkjenddmkmlbeaaDoor.frame
