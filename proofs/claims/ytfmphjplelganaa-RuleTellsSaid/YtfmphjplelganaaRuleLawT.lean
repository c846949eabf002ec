/- RuleTells: the statement is proved as it is given, for every input. -/
import Derived.Test.YtfmphjplelganaaRows
import Derived.Test.YtfmphjplelganaaRuleLawV
import Derived.Test.YtfmphjplelganaaRuleRMost
namespace Go.Proofs.Ytfmphjplelganaa.crush
open Go.ChangeShapes Go.WideShapes Go.ChangeAt Go.RowKit
open Go.Proofs.Ytfmphjplelganaa.kit Go.Proofs.Ytfmphjplelganaa.own Go.Proofs.Ytfmphjplelganaa.lift
set_option linter.unusedVariables false

set_option maxHeartbeats 32000000 in
set_option maxRecDepth 100000 in
theorem walkTells (v vw vl : Value) (hs0 ws l0 : List Int) (size d : Int) (w : World) (h : Sl ic 1 w v hs0) (hw : Sl ic 1 w vw ws) (hl : Sl ic 1 w vl l0) (hc : CapOk v hs0.length) (hc2 : CapOk vl l0.length) (hsz : I64 size) :
    Calls Try.prog 4 #[v, vw, vl, .int .i64 size, .int .i64 d] w fun e w' => e = .returned (.bool true) ∧ Below w.heap.size w w' := by
  have HFw := Lib.hid (few_any v hs0 60 (by decide) w h hc)
  have HFl := Lib.hid (few_any vl l0 60 (by decide) w hl hc2)
  obtain ⟨a0, c0, rfl⟩ := h.slice
  obtain ⟨aw, cw, rfl⟩ := hw.slice
  obtain ⟨al0, cl0, rfl⟩ := hl.slice
  have hlh : (hs0.take 60).length ≤ 60 := by rw [List.length_take]; omega
  have hll : (l0.take 60).length ≤ 60 := by rw [List.length_take]; omega
  generalize hs0.take 60 = hs at HFw hlh
  generalize l0.take 60 = l at HFl hll
  have HW := Lib.hid hw; have HSz := Lib.hid hsz
  generalize ws.length = Lw at HW ⊢
  generalize hs0.length = L0 at HFw ⊢
  generalize l0.length = n0 at HFl ⊢
  clear h hw hl hc hc2 hsz
  go_enter Try.func4, Try.ntmps4
  go_wp2_with fail
  refine HFw.out.mono ?_
  rintro e w1 ⟨⟨v1, rfl, hs1⟩, rfl⟩
  obtain ⟨a1, c1, rfl⟩ := hs1.slice
  have HS := Lib.hid hs1
  clear hs1 HFw
  go_upto_region 2 with fail
  go_wp2_with fail
  refine HFl.out.mono ?_
  rintro e w2 ⟨⟨v2, rfl, hs2⟩, rfl⟩
  obtain ⟨a2, c2, rfl⟩ := hs2.slice
  have HLl := Lib.hid hs2
  clear hs2 HFl
  have HV1 := Lib.hid (fun u (hu : Below w2.heap.size w2 u) => Valid_any _ _ _ hs ws l size d u (HS.out.keep hu) (HW.out.keep hu) (HLl.out.keep hu) (by omega) (by omega))
  have HV2 := Lib.hid (fun u (hu : Below w2.heap.size w2 u) => rValid_any _ _ _ hs ws l size d u (HS.out.keep hu) (HW.out.keep hu) (HLl.out.keep hu) (by omega) (by omega))
  have HM1 := Lib.hid (fun u (hu : Below w2.heap.size w2 u) => Most_any _ _ hs ws size d u (HS.out.keep hu) (HW.out.keep hu) (by omega) HSz.out)
  have HM2 := Lib.hid (fun u (hu : Below w2.heap.size w2 u) => rMost_any _ _ hs ws size d u (HS.out.keep hu) (HW.out.keep hu) (by omega))
  generalize validB hs ws l size d = vb at HV1 HV2
  generalize mostE hs ws size d = mo at HM1 HM2
  generalize hs.length = L at HV1 HV2 HM1 HM2 HS ⊢
  generalize l.length = n at HV1 HV2 HLl ⊢
  clear hlh hll
  go_wp2_with (first
    | (go_at_call 18; refine (HV1.out w2 (Below.refl _ _)).mono ?_; rintro e w3 ⟨rfl, hb⟩; have HB3 := Lib.hid hb; clear hb)
    | (go_at_call 19; refine (HV2.out w3 HB3.out).mono ?_; rintro e w4 ⟨rfl, hb⟩; have HB4 := Lib.hid (HB3.out.trans (hb.mono HB3.out.size)); clear hb)
    | (go_at_call 20; refine (HM1.out w4 HB4.out).mono ?_; rintro e w5 ⟨rfl, hb⟩; have HB5 := Lib.hid (HB4.out.trans (hb.mono HB4.out.size)); clear hb)
    | (go_at_call 21; refine (HM2.out w5 HB5.out).mono ?_; rintro e w6 ⟨rfl, hb⟩; have HB6 := Lib.hid (HB5.out.trans (hb.mono HB5.out.size)); clear hb)
    | (go_at_call 17; refine (awake_any _).mono ?_; rintro e w7 ⟨rfl, hb⟩; have HBe := Lib.hid (HB6.out.trans (hb.mono HB6.out.size)); clear hb))
  go_ret
  exact ⟨rfl, HBe.out⟩

--LIFT
set_option maxRecDepth 100000 in
theorem liftedTells (os : Os) (started : os.Started) (H : Type) (enc : TypeId × Value → H) :
    ReturnsInHanded {} Try.checked os 4 .any (Rows.ruleTellsSpec.pre6 enc Try.prog Try.f4 Rows.ruleTellsRow.domain false) (Rows.ruleTellsSpec.post enc Try.prog Try.f4 false true false false) := by
  refine lift.law (C := Try.checked) own started (by kernel_rfl) Try.func4
    (ChangeSpec.witness6 (enc := enc) (C := Try.checked) false ⟨#[], #[.slice none 0 0, .slice none 0 0, .slice none 0 0, .int .i64 0, .int .i64 0], []⟩ 8 (by kernel_rfl) (by kernel_rfl) (by kernel_rfl) (by kernel_rfl)) laidOut (by kernel_rfl) 4 Try.underlying4 (by kernel_rfl) rfl ?_ ?_
  · intro ds hd
    match ds, hd with
    | [_, _, _, _, _], _ => rfl
  · intro W base args ds ps hg
    have hA : DataW.TrodAll enc Try.prog W 0 (fun _ => true) true Try.f4.params.toList args.toList ds ps := hg.read
    have hval : ∀ (j : Nat) t v, Try.f4.params[j]? = some t → args[j]? = some v → Value.okWide Try.prog W .any base t v := hg.ok
    rw [Try.params4] at hA hval
    obtain ⟨v0, vs0, d0, ds0, p0, q0, hargs, rfl, rfl, h0, r0⟩ := trodAll_cons hA
    obtain ⟨v1, vs1, d1, ds1, p1, q1, rfl, rfl, rfl, h1, r1⟩ := trodAll_cons r0
    obtain ⟨v2, vs2, d2, ds2, p2, q2, rfl, rfl, rfl, h2, r2⟩ := trodAll_cons r1
    obtain ⟨v3, vs3, d3, ds3, p3, q3, rfl, rfl, rfl, h3, r3⟩ := trodAll_cons r2
    obtain ⟨v4, vs4, d4, ds4, p4, q4, rfl, rfl, rfl, h4, r4⟩ := trodAll_cons r3
    obtain ⟨rfl, rfl, rfl⟩ := trodAll_nil r4
    obtain rfl : args = #[v0, v1, v2, v3, v4] := by cases args; simp_all
    obtain ⟨fs0, hs0, hok0, hcap0⟩ := ints_open (hval 0 22 v0 rfl rfl) h0
    obtain ⟨fs1, hs1, hok1, hcap1⟩ := i64s_open (hval 1 23 v1 rfl rfl) h1
    obtain ⟨fs2, hs2, hok2, hcap2⟩ := ints_open (hval 2 22 v2 rfl rfl) h2
    obtain ⟨z3, rfl, rfl, rfl, w3⟩ := open_int Try.underlying3 (hval 3 3 v3 rfl rfl) h3
    obtain ⟨z4, rfl, rfl, rfl, w4⟩ := open_int Try.underlying3 (hval 4 3 v4 rfl rfl) h4
    exact walkTells v0 v1 v2 fs0 fs1 fs2 z3 z4 W hs0 hs1 hs2 hcap0 hcap2 (i64_of w3)

theorem tells_holds : Rows.RuleTellsSaid :=
  OpenClaim.holds_of_wide 4 Try.f4 rfl rfl rfl rfl rfl rfl rfl ⟨rfl, rfl, rfl, rfl, rfl⟩ rfl rfl rfl rfl rfl (by kernel_rfl) Try.func4 (by kernel_rfl)
    (of_decide_eq_true (by kernel_rfl)) (by unfold Func.isWrapper; first | (rw [if_pos (by decide +kernel)]; kernel_rfl) | (rw [if_neg (by decide +kernel)]; exact ⟨rfl, rfl⟩))
    (fun os started H enc _ => liftedTells os started H enc)

#print axioms tells_holds
end Go.Proofs.Ytfmphjplelganaa.crush
