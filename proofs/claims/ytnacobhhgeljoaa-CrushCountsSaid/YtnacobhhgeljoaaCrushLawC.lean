/- CrushCounts: the statement is proved as it is given, for every input. -/
import Derived.Test.YtnacobhhgeljoaaRows
import Derived.Test.YtnacobhhgeljoaaCrushMovedP
import Derived.Test.YtnacobhhgeljoaaCrushLawM
namespace Go.Proofs.Ytnacobhhgeljoaa.crush
open Go.ChangeShapes Go.WideShapes Go.ChangeAt Go.RowKit
open Go.Proofs.Ytnacobhhgeljoaa.kit Go.Proofs.Ytnacobhhgeljoaa.own Go.Proofs.Ytnacobhhgeljoaa.lift
set_option linter.unusedVariables false

set_option maxHeartbeats 32000000 in
set_option maxRecDepth 100000 in
theorem walkCounts (v1 : Value) (xs : List It) (v2 : Value) (ys : List It) (x : Nat) (n : Int) (hx : x < 4294967296) (w : World) (h1 : Sl wc 2 w v1 xs) (h2 : Sl wc 2 w v2 ys) :
    Calls Try.prog 4 #[v1, v2, .int .u32 x, .int .i64 n] w fun e w' => e = .returned (.bool true) ∧ Below w.heap.size w w' := by
  obtain ⟨a1, cp1, rfl⟩ := h1.slice
  obtain ⟨a2, cp2, rfl⟩ := h2.slice
  have HS1 := Lib.hid h1; have HS2 := Lib.hid h2
  obtain ⟨L1, hL1⟩ : ∃ L, xs.length = L := ⟨_, rfl⟩
  obtain ⟨L2, hL2⟩ : ∃ L, ys.length = L := ⟨_, rfl⟩
  have HL1 := Lib.hid hL1; have HL2 := Lib.hid hL2
  rw [hL1] at HS1 ⊢
  rw [hL2] at HS2 ⊢
  have HXl := Lib.hid hx
  clear h1 h2 hL1 hL2 hx
  by_cases h40 : L1 ≤ 40
  · have hf1 : True → decide ((L1 : Int) ≤ 40) = true := fun _ => by rw [decide_eq_true_iff]; omega
    by_cases h41 : L2 ≤ 40
    · have hf2 : True → decide ((L2 : Int) ≤ 40) = true := fun _ => by rw [decide_eq_true_iff]; omega
      go_enter Try.func4, Try.ntmps4
      go_upto_region 4 with (go_at_call 8; refine (few_any _ _ _ _).mono ?_; rintro e w1 ⟨rfl, rfl⟩)
      generalize min n 60 = m
      have hA : xs.length ≤ 65536 := by have := HL1.out; omega
      have hB : ys.length ≤ 65536 := by have := HL2.out; omega
      have C1 := Lib.hid (Count_any (.slice a1 L1 cp1) xs x m HXl.out hA)
      have C2 := Lib.hid (rCount_any (.slice a1 L1 cp1) xs x m HXl.out hA)
      have C3 := Lib.hid (Moved_any (.slice a1 L1 cp1) (.slice a2 L2 cp2) xs ys x m HXl.out hA hB)
      have C4 := Lib.hid (rMoved_any (.slice a1 L1 cp1) (.slice a2 L2 cp2) xs ys x m HXl.out hA hB)
      clear hA hB hf1 hf2
      generalize ints (cntF xs x (askN m)) = ns at C1 C2
      generalize movF xs ys x (askN m) = mv at C3 C4
      go_wp2_with fail
      refine (C1.out _ HS1.out).mono ?_
      rintro e w1 ⟨v3, rfl, hs3, hb⟩
      have HB1 := Lib.hid hb
      have HR1 := Lib.hid hs3
      clear hb hs3
      go_wp2_with fail
      refine (C2.out _ (HS1.out.keep HB1.out)).mono ?_
      rintro e w2 ⟨v4, rfl, hs4, hb⟩
      have HB2 := Lib.hid (HB1.out.trans (hb.mono HB1.out.size))
      have HR2 := Lib.hid (HR1.out.keep hb)
      have HR3 := Lib.hid hs4
      clear hb hs4
      go_wp2_with fail
      refine (lints_any _ _ ns _ HR2.out HR3.out).mono ?_
      rintro e w3 ⟨rfl, hb⟩
      have HB3 := Lib.hid (HB2.out.trans (hb.mono HB2.out.size))
      clear hb
      go_wp2_with fail
      refine (C3.out _ (HS1.out.keep HB3.out) (HS2.out.keep HB3.out)).mono ?_
      rintro e w4 ⟨rfl, hb⟩
      have HB4 := Lib.hid (HB3.out.trans (hb.mono HB3.out.size))
      clear hb
      go_wp2_with fail
      refine (C4.out _ (HS1.out.keep HB4.out) (HS2.out.keep HB4.out)).mono ?_
      rintro e w5 ⟨rfl, hb⟩
      have HB5 := Lib.hid (HB4.out.trans (hb.mono HB4.out.size))
      clear hb C1 C2 C3 C4
      go_wp2_with fail
      refine (awake_any _).mono ?_
      rintro e w6 ⟨rfl, hb⟩
      have HB6 := Lib.hid (HB5.out.trans (hb.mono HB5.out.size))
      clear hb
      go_wp2
      go_ret
      exact ⟨rfl, HB6.out⟩
    · have hf2 : True → decide ((L2 : Int) ≤ 40) = false := fun _ => by rw [decide_eq_false_iff_not]; omega
      go_enter Try.func4, Try.ntmps4
      go_wp2_with (first | (go_at_call 9; refine (awake_any _).mono ?_; rintro e w1 ⟨rfl, hb⟩; have HB := Lib.hid hb; clear hb) | (go_at_call 8; refine (few_any _ _ _ _).mono ?_; rintro e w1 ⟨rfl, rfl⟩))
      go_ret
      exact ⟨rfl, HB.out⟩
  · have hf1 : True → decide ((L1 : Int) ≤ 40) = false := fun _ => by rw [decide_eq_false_iff_not]; omega
    go_enter Try.func4, Try.ntmps4
    go_wp2_with (first | (go_at_call 9; refine (awake_any _).mono ?_; rintro e w1 ⟨rfl, hb⟩; have HB := Lib.hid hb; clear hb) | (go_at_call 8; refine (few_any _ _ _ _).mono ?_; rintro e w1 ⟨rfl, rfl⟩))
    go_ret
    exact ⟨rfl, HB.out⟩

--LIFT
set_option maxRecDepth 100000 in
theorem liftedCounts (os : Os) (started : os.Started) (H : Type) (enc : TypeId × Value → H) :
    ReturnsInHanded {} Try.checked os 4 .any (Rows.crushCountsSpec.pre6 enc Try.prog Try.f4 Rows.crushCountsRow.domain false) (Rows.crushCountsSpec.post enc Try.prog Try.f4 false true false false) := by
  refine lift.law (C := Try.checked) own started (by kernel_rfl) Try.func4
    (ChangeSpec.witness6 (enc := enc) (C := Try.checked) false ⟨#[], #[.slice none 0 0, .slice none 0 0, .int .u32 0, .int .i64 0], []⟩ 8 (by kernel_rfl) (by kernel_rfl) (by kernel_rfl) (by kernel_rfl)) laidOut (by kernel_rfl) 4 Try.underlying4 (by kernel_rfl) rfl ?_ ?_
  · intro ds hd
    match ds, hd with
    | [_, _, _, _], _ => rfl
  · intro W base args ds ps hg
    have hA : DataW.TrodAll enc Try.prog W 0 (fun _ => true) true Try.f4.params.toList args.toList ds ps := hg.read
    have hval : ∀ (j : Nat) t v, Try.f4.params[j]? = some t → args[j]? = some v → Value.okWide Try.prog W .any base t v := hg.ok
    rw [Try.params4] at hA hval
    obtain ⟨v0, vs0, d0, ds0, p0, q0, hargs, rfl, rfl, h0, r0⟩ := trodAll_cons hA
    obtain ⟨v1, vs1, d1, ds1, p1, q1, rfl, rfl, rfl, h1, r1⟩ := trodAll_cons r0
    obtain ⟨v2, vs2, d2, ds2, p2, q2, rfl, rfl, rfl, h2, r2⟩ := trodAll_cons r1
    obtain ⟨v3, vs3, d3, ds3, p3, q3, rfl, rfl, rfl, h3, r3⟩ := trodAll_cons r2
    obtain ⟨rfl, rfl, rfl⟩ := trodAll_nil r3
    obtain rfl : args = #[v0, v1, v2, v3] := by cases args; simp_all
    obtain ⟨fs0, hs0, hok0, hcap0, hbulk0⟩ := itm_open (hval 0 22 v0 rfl rfl) h0
    obtain ⟨fs1, hs1, hok1, hcap1, hbulk1⟩ := itm_open (hval 1 22 v1 rfl rfl) h1
    obtain ⟨z2, rfl, rfl, rfl, w2⟩ := open_int Try.underlying23 (hval 2 23 v2 rfl rfl) h2
    have u2 := u32_pos z2 w2
    obtain ⟨n2, rfl⟩ : ∃ n : Nat, z2 = n := ⟨z2.toNat, by omega⟩
    obtain ⟨z3, rfl, rfl, rfl, w3⟩ := open_int Try.underlying3 (hval 3 3 v3 rfl rfl) h3
    exact walkCounts v0 fs0 v1 fs1 n2 z3 (by omega) W hs0 hs1

theorem counts_holds : Rows.CrushCountsSaid :=
  OpenClaim.holds_of_wide 4 Try.f4 rfl rfl rfl rfl rfl rfl rfl ⟨rfl, rfl, rfl, rfl, rfl⟩ rfl rfl rfl rfl rfl (by kernel_rfl) Try.func4 (by kernel_rfl)
    (of_decide_eq_true (by kernel_rfl)) (by unfold Func.isWrapper; first | (rw [if_pos (by decide +kernel)]; kernel_rfl) | (rw [if_neg (by decide +kernel)]; exact ⟨rfl, rfl⟩))
    (fun os started H enc _ => liftedCounts os started H enc)

#print axioms counts_holds
end Go.Proofs.Ytnacobhhgeljoaa.crush
