/- The law FrameBack: for every kind, all bytes, whatever stands behind and any cut, of bulk at most the bound together, it returns true and leaves its arguments as they were; the two package-level tables start as the program's text lays them. -/
import Derived.Test.YtkjenddmkmlbeaaDoorCards
import Derived.Test.YtkjenddmkmlbeaaDoorTie
import Derived.Test.YtkjenddmkmlbeaaDoorFrameLawS
import Derived.Test.YtkjenddmkmlbeaaDoorFrameMath2
namespace Go.Proofs.YtkjenddmkmlbeaaDoor.frame
open Go.ChangeShapes Go.WideShapes Go.ChangeAt Go.RowKit
open Go.Proofs.YtkjenddmkmlbeaaDoor.kit Go.Proofs.YtkjenddmkmlbeaaDoor.own Go.Proofs.YtkjenddmkmlbeaaDoor.fm Go.Proofs.YtkjenddmkmlbeaaDoor.lift
open Go.WideMaps Go.WideElems
set_option linter.unusedVariables false
set_option linter.constructorNameAsVariable false

theorem cut_eq (z : Int) (L : Nat) (hL : L ≤ 1048575) : ∃ m : Nat, m < L + 9 ∧ wrap64 ((IntKind.u64.wrap z).tmod ((L : Int) + 9)) = ((m : Nat) : Int) := by
  have h0 : 0 ≤ IntKind.u64.wrap z := by rw [IntKind.wrap_u64]; omega
  rw [Int.tmod_eq_emod_of_nonneg h0]
  generalize IntKind.u64.wrap z = u at h0
  have hM : ((L : Int) + 9) = ((L + 9 : Nat) : Int) := by omega
  rw [hM]
  have h1 := Int.emod_nonneg u (show ((L + 9 : Nat) : Int) ≠ 0 by omega)
  have h2 := Int.emod_lt_of_pos u (show (0 : Int) < ((L + 9 : Nat) : Int) by omega)
  generalize u % ((L + 9 : Nat) : Int) = q at h1 h2
  obtain ⟨p, rfl⟩ := Int.eq_ofNat_of_zero_le h1
  refine ⟨p, by omega, ?_⟩
  unfold wrap64
  omega

set_option maxHeartbeats 8000000 in
set_option maxRecDepth 100000 in
theorem walkBack (w : World) (kind : Nat) (hk : kind < 256) (v : Value) (ns : List Nat) (hv : Bts w v ns) (hlen : ns.length ≤ 140737488351232) (v2 : Value) (ms : List Nat) (hv2 : Bts w v2 ms) (hlen2 : ms.length ≤ 140737488351232) (z : Int) (hms : ms.length ≤ 1048576) (hn : Nib w) (hb : Bru w) :
    Calls Tryd.prog 5 #[.int .u8 kind, v, v2, .int .i64 z] w fun e w' => e = .returned (.bool true) ∧ Below w.heap.size w w' := by
  have HV := Lib.hid hv; have HN := Lib.hid hn; have HBr := Lib.hid hb; have HK := Lib.hid hk; have HLen := Lib.hid hlen; have HV2 := Lib.hid hv2; have HMs := Lib.hid hms
  obtain ⟨_, va, vcap, rfl, _⟩ := id hv.1
  obtain ⟨L, hL⟩ : ∃ L, ns.length = L := ⟨_, rfl⟩
  have HL := Lib.hid hL
  have HVL := Lib.hid hv
  rw [hL] at HVL ⊢
  clear hv hn hb hk hlen hv2 hlen2 hms hL
  go_enter Tryd.func5, Tryd.ntmps5
  by_cases hlong : 1048575 < L
  · have hlI : (1048575 : Int) < L := by omega
    go_wp2_with fail
    refine (Seal_long kind _ ns w HVL.out.1 (by rw [HL.out]; exact hlong)).mono ?_
    rintro e w1 ⟨rfl, rfl⟩
    go_wp2_with fail
    refine (awake_any w HN.out HBr.out).mono ?_
    rintro e w1 ⟨rfl, hb1⟩
    have HB1 := Lib.hid hb1
    clear hb1
    go_wp2
    go_ret
    exact ⟨rfl, HB1.out⟩
  · go_wp2_with fail
    refine (Seal_ok kind HK.out _ ns w HVL.out HN.out (by rw [HL.out]; omega)).mono ?_
    rintro e w1 ⟨⟨v1, rfl, ho1⟩, hb1⟩
    obtain ⟨g1, cap1, rfl, hB1, hc1, hm1⟩ := own_at ho1 (by rw [sealed_len]; omega)
    have HB1 := Lib.hid hb1
    have hs1 := bts_own ho1 (sealed_lt kind ns HK.out HV.out.2.1)
    rw [sealed_len, HL.out] at hc1 hs1 ⊢
    have HS1 := Lib.hid hs1
    clear hb1 ho1 hB1 hs1
    have HB2 := Lib.hid ((Below.refl w1.heap.size w1).alloc (Nat.le_refl _) (.cells #[] 5))
    go_wp2_with (at_builtin; refine appS rfl (.tmp 32) (.tmp 33) 22 rfl w1.heap.size 5 .u8 1 Tryd.underlying22 infoByte _ [] rfl (own_empty w1 _ _) _ (sealed kind ns) rfl (HS1.out.1.keep HB2.out) (fun n c e => by cases e) ?_ ?_ HB2.out.size ?_)
    case refine_1 => have := HL.out; simp [maxLen, sealed_len]; omega
    case refine_2 => have := HL.out; simp [sealed_len]; omega
    case refine_3 =>
      intro v3 w3 ho3 hk3
      replace ho3 : OwnI w3 w1.heap.size 5 .u8 v3 (sealed kind ns) := ho3
      have HB3 := Lib.hid (show Below w1.heap.size w1 w3 from HB2.out.trans hk3.toBelow)
      have HO3 := Lib.hid ho3
      have HB03 := Lib.hid (HB1.out.trans (HB3.out.mono HB1.out.size))
      clear ho3 hk3 HB2
      go_wp2_with (at_builtin; refine appS rfl (.tmp 34) (.tmp 35) 22 rfl w1.heap.size 5 .u8 1 Tryd.underlying22 infoByte _ (sealed kind ns) rfl HO3.out _ ms rfl (HV2.out.1.keep HB03.out) HV2.out.2.2.1 ?_ ?_ HB3.out.size ?_)
      case refine_1 => have := HL.out; have := HMs.out; simp [maxLen, sealed_len]; omega
      case refine_2 => have := HL.out; have := HMs.out; simp [sealed_len]; omega
      case refine_3 =>
        intro v4 w4 ho4 hk4
        have hb4 : Below w1.heap.size w1 w4 := HB3.out.trans hk4.toBelow
        have h8 : ∀ b ∈ sealed kind ns ++ ms, b < 256 := by
          intro b hb
          rcases List.mem_append.1 hb with h | h
          · exact sealed_lt kind ns HK.out HV.out.2.1 b h
          · exact HV2.out.2.1 b h
        have HO4 := Lib.hid (bts_own ho4 h8)
        have HB4 := Lib.hid (HB1.out.trans (hb4.mono HB1.out.size))
        have HS4 := Lib.hid (HS1.out.keep hb4)
        clear ho4 hk4 hb4 h8 HB3 HB03 HO3
        go_wp2_with fail
        refine (Open_any v4 _ w4 HO4.out (HN.out.keep HB4.out) (by rw [List.length_append, sealed_len]; have := HL.out; have := HMs.out; omega)).mono ?_
        rintro e w5 ⟨hb5, h5⟩
        rw [open_sealed kind ns ms (by rw [HL.out]; omega)] at h5
        obtain ⟨v5, rfl, ho5⟩ := h5
        rw [HL.out]
        have HB5 := Lib.hid (HB4.out.trans (hb5.mono HB4.out.size))
        have HS5 := Lib.hid (HS4.out.keep hb5)
        have hca := convN (bts_own ho5 HV.out.2.1)
        have hcb := convN (HVL.out.keep HB5.out)
        clear hb5 ho5 HB4 HS4 HO4
        generalize strN ns = st at hca hcb
        obtain ⟨m, hm, hcut⟩ := cut_eq z L (by omega)
        have hcut' : True → wrap64 ((IntKind.u64.wrap z).tmod ((L : Int) + 9)) = (m : Int) := fun _ => hcut
        have hmI : (m : Int) ≤ cap1 := by omega
        have HCut : Hid (Bts w5 (.slice (some ⟨g1, 0, none⟩) m cap1) ((sealed kind ns).take m)) := by
          have h := HS5.out.1
          have hl := sealed_len kind ns
          rw [HL.out] at hl
          have h1 := SlI.cells h
          have e1 : ((sealed kind ns).take m).length = m := by rw [List.length_take, hl]; omega
          refine ⟨⟨by omega, some ⟨g1, 0, none⟩, cap1, by rw [e1], fun _ => ⟨g1, 0, rfl, fun j hj => ?_⟩⟩, fun n hn => HS5.out.2.1 n (List.mem_of_mem_take hn), fun n c e => (by cases e), fun a n c e => (by cases e; omega)⟩
          rw [e1] at hj
          rw [h1 j (by omega)]
          simp [List.getD, hj]
        have HCl : Hid (((sealed kind ns).take m).length ≤ 140737488355328) := by
          unfold Hid
          rw [List.length_take]
          omega
        have HOp := Lib.hid (open_cut kind ns (by rw [HL.out]; omega) m (by rw [HL.out]; exact hm))
        clear hcut hm HS5
        go_wp2_with fail
        refine (Open_any _ _ w5 HCut.out (HN.out.keep HB5.out) HCl.out).mono ?_
        rintro e w6 ⟨hb6, h6⟩
        rw [HOp.out] at h6
        subst h6
        have HB6 := Lib.hid (HB5.out.trans (hb6.mono HB5.out.size))
        clear hb6 hca hcb hcut'
        go_wp2_with fail
        refine (awake_any w6 (HN.out.keep HB6.out) (HBr.out.keep HB6.out)).mono ?_
        rintro e w7 ⟨rfl, hb7⟩
        have HB7 := Lib.hid (HB6.out.trans (hb7.mono HB6.out.size))
        clear hb7
        go_wp2
        go_ret
        exact ⟨rfl, HB7.out⟩

theorem readsBack (os : Os) {H : Type} (enc : TypeId × Value → H) : ∃ places, DataW.whole enc Tryd.prog ((laidWorld os).forCall (fun _ _ => 0) ⟨#[], #[.int .u8 0, .slice none 0 0, .slice none 0 0, .int .i64 0], []⟩).memory Tryd.f5.params.toList Rows.frameBackSpec.vars false (#[.int .u8 0, .slice none 0 0, .slice none 0 0, .int .i64 0] : Array Value).toList 8 = some ([.lit (.int .u8 0), .nil, .nil, .lit (.int .i64 0)], [], places) :=
  ⟨[], by kernel_rfl⟩

set_option maxRecDepth 100000 in
theorem liftedBack (os : Os) (started : os.Started) (H : Type) (enc : TypeId × Value → H) (F : Stop.Interp) :
    ReturnsInHanded {} Tryd.checked os 5 .any ((Rows.OpenSpec.upto Rows.frameBackSpec).preRow enc Tryd.prog Tryd.f5 Rows.frameBackUptoRow.domain false Rows.frameBackUptoRow.laid) (((Rows.OpenSpec.upto Rows.frameBackSpec).at F).post enc Tryd.prog Tryd.f5 false true false false) := by
  obtain ⟨places, hx⟩ := readsBack os enc
  refine returnsInHanded_of_row (C := Tryd.checked) (s := Rows.OpenSpec.upto Rows.frameBackSpec) own started (by kernel_rfl) Tryd.func5
    (witness_row_at (enc := enc) (C := Tryd.checked) false (laidWorld os) #[.int .u8 0, .slice none 0 0, .slice none 0 0, .int .i64 0] rfl (by kernel_rfl) (by kernel_rfl) (by kernel_rfl)
      (OpenSpec.preRow_of_cond 8 hx (by kernel_rfl) (fun k hk => by cases hk; kernel_rfl) (by kernel_rfl) (laid_met os _))) ?_
  intro W base args ds gs before hval hW0 _ hcond hz hL _ _
  have hW : DataW.Whole enc Tryd.prog Tryd.f5.params.toList Rows.frameBackSpec.vars false W args.toList ds gs before := hW0
  refine closes (s := Rows.frameBackSpec) laidOut (by kernel_rfl) 4 Tryd.underlying4 (by kernel_rfl) rfl (fun ds hd => ?_) hW ?_
  · match ds, hd with
    | [_, _, _, _], _ => rfl
  · obtain ⟨p, q, hA0, hV, hbefore, hfz, hnd⟩ := hW
    obtain ⟨rfl, rfl⟩ := trodVars_none hV
    have hA : DataW.TrodAll enc Tryd.prog W 0 (fun _ => true) true Tryd.f5.params.toList args.toList ds p := hA0
    have hval' : ∀ (j : Nat) t v, Tryd.f5.params[j]? = some t → args[j]? = some v → Value.okWide Tryd.prog W .any base t v := hval
    have hz' : (DataW.weightsEach Tryd.prog Tryd.f5.params.toList ds).all (· ≤ reachBytes) = true := by
      have h : (DataW.weightsEach Tryd.prog (Tryd.f5.params.toList ++ []) (ds ++ [])).all (· ≤ reachBytes) = true := hz
      rw [List.append_nil, List.append_nil] at h
      exact h
    have hbulk : Rows.uptoBulkAll ds ≤ 1048576 := by
      have h := hcond _ rfl
      rw [List.append_nil] at h
      exact of_decide_eq_true h
    rw [Tryd.params5] at hA hval' hz'
    obtain ⟨v0, vs0, d0, ds0, p0, q0, hargs, rfl, rfl, h0, r0⟩ := trodAll_cons hA
    obtain ⟨v1, vs1, d1, ds1, p1, q1, rfl, rfl, rfl, h1, r1⟩ := trodAll_cons r0
    obtain ⟨v2, vs2, d2, ds2, p2, q2, rfl, rfl, rfl, h2, r2⟩ := trodAll_cons r1
    obtain ⟨v3, vs3, d3, ds3, p3, q3, rfl, rfl, rfl, h3, r3⟩ := trodAll_cons r2
    obtain ⟨rfl, rfl, rfl⟩ := trodAll_nil r3
    obtain rfl : args = #[v0, v1, v2, v3] := by cases args; simp_all
    obtain ⟨a0, rfl, rfl, rfl, w0⟩ := open_int Tryd.underlying5 (hval' 0 5 v0 rfl rfl) h0
    have hk0 := u8_pos a0 w0
    obtain ⟨x0, rfl⟩ := Int.eq_ofNat_of_zero_le hk0.1
    obtain ⟨ns1, hv1, hlen1, hbk1⟩ := bytes_open (hval' 1 22 v1 rfl rfl) h1 (weight hz' (j := 1) rfl rfl)
    obtain ⟨ns2, hv2, hlen2, hbk2⟩ := bytes_open (hval' 2 22 v2 rfl rfl) h2 (weight hz' (j := 2) rfl rfl)
    obtain ⟨a3, rfl, rfl, rfl, w3⟩ := open_int Tryd.underlying3 (hval' 3 3 v3 rfl rfl) h3
    simp only [Rows.uptoBulkAll] at hbulk
    exact walkBack W x0 (by omega) v1 ns1 hv1 hlen1 v2 ns2 hv2 hlen2 a3 (by omega) (nib_of hL) (bru_of hL)

theorem saidBack : Rows.FrameBackUptoSaid :=
  OpenClaim.holds_of_cond 5 Tryd.f5 rfl rfl rfl rfl rfl rfl rfl ⟨rfl, rfl, rfl, rfl, rfl⟩ rfl rfl rfl rfl rfl (by kernel_rfl) Tryd.func5 (by kernel_rfl)
    (of_decide_eq_true (by kernel_rfl)) (by unfold Func.isWrapper; first | (rw [if_pos (by decide +kernel)]; kernel_rfl) | (rw [if_neg (by decide +kernel)]; exact ⟨rfl, rfl⟩))
    (fun os started H enc _ F => by rw [OpenClaim.pre_eq_preRow]; exact liftedBack os started H enc F)

theorem plainBack (f : FuncId) (fn : Func) (hf : Tryd.pinned.checked.prog.funcNamed "reef/reeflaw03.FrameBack" = some f) (hfn : Tryd.pinned.checked.prog.funcs[f]? = some fn) :
    false = Tryd.pinned.checked.prog.looks [] ∧ ∀ (j : Nat) t, fn.params[j]? = some t → Tryd.pinned.checked.prog.wantsStandIn t = false := by
  obtain rfl : f = 5 := Option.some.inj ((show Tryd.prog.funcNamed "reef/reeflaw03.FrameBack" = some 5 by kernel_rfl).symm.trans hf) |>.symm
  obtain rfl : fn = Tryd.f5 := (Option.some.inj (Tryd.func5.symm.trans hfn)).symm
  refine ⟨by kernel_rfl, fun j t ht => ?_⟩
  rw [Tryd.params5] at ht
  have hm : t ∈ [5, 22, 22, 3] := by simpa using Array.mem_of_getElem? ht
  have hall : ([5, 22, 22, 3].all fun u => !Tryd.prog.wantsStandIn u) = true := by kernel_rfl
  exact (show Tryd.prog.wantsStandIn t = false by simpa using List.all_eq_true.1 hall t hm)

theorem cardBack : Rows.FrameBackUptoCardSaid :=
  Claim7.holds_tied_plain_at .later [] _ _ _ _ saidBack (fun _ h => by cases h) (by kernel_rfl) (fun _ h => by cases h) frameBackUpto_row_tie rfl ⟨rfl, rfl⟩ (by kernel_rfl) rfl plainBack (by kernel_rfl)

#print axioms cardBack
end Go.Proofs.YtkjenddmkmlbeaaDoor.frame
