/- CrushTells: the statement is proved as it is given, for every input. -/
import Derived.Test.YtnacobhhgeljoaaRows
import Derived.Test.YtnacobhhgeljoaaCrushRRank
namespace Go.Proofs.Ytnacobhhgeljoaa.crush
open Go.ChangeShapes Go.WideShapes Go.ChangeAt Go.RowKit
open Go.Proofs.Ytnacobhhgeljoaa.kit Go.Proofs.Ytnacobhhgeljoaa.own Go.Proofs.Ytnacobhhgeljoaa.lift
set_option linter.unusedVariables false

theorem Cost_belT (x : Nat) (id r : Int) (hx : x < 4294967296) (w : World) :
    Calls Try.prog 12 #[.int .u32 x, .int .i64 id, .int .i64 r] w fun e w' => e = .returned (.int .i64 (costN x id r)) ∧ Below w.heap.size w w' :=
  (Cost_any x id r hx w).mono (fun e w' ⟨h1, h2⟩ => ⟨h1, by rw [h2]; exact below_new _ _⟩)
theorem neq_item (p q : Int) (w : World) : (binOp .neq 33 (.agg #[.int .i64 p, .int .i64 q]) (.agg #[.int .i64 p, .int .i64 q])).run Try.prog w = .ok (.bool false) w := by
  go_simp

set_option maxHeartbeats 32000000 in
set_option maxRecDepth 100000 in
theorem walkTells (v : Value) (xs : List It) (x : Nat) (id r : Int) (hx : x < 4294967296) (w : World) (h : Sl wc 2 w v xs) :
    Calls Try.prog 3 #[v, .int .u32 x, .int .i64 id, .int .i64 r] w fun e w' => e = .returned (.bool true) ∧ Below w.heap.size w w' := by
  obtain ⟨a, c, rfl⟩ := h.slice
  have HS := Lib.hid h
  obtain ⟨L, hL⟩ : ∃ L, xs.length = L := ⟨_, rfl⟩
  have HL := Lib.hid hL
  rw [hL] at HS ⊢
  have HXl := Lib.hid hx
  clear h hL hx
  by_cases h40 : L ≤ 40
  · have hf : True → decide ((L : Int) ≤ 40) = true := fun _ => by rw [decide_eq_true_iff]; omega
    have HO := Lib.hid (own_none (enc := wc) (k := 2) (e := 33) w w.heap.size (Nat.le_refl _))
    have HB0 := Lib.hid (below_new w (.cells #[] 33))
    have hHL : xs.length = L := HL.out
    have HSn := Lib.hid (HS.out.keep HB0.out)
    have mixed : Try.prog.follows .mixedOrders = true := by kernel_rfl
    go_enter Try.func3, Try.ntmps3
    go_upto_region 4 with (first | (go_at_call 8; refine (few_any _ _ _ _).mono ?_; rintro e w1 ⟨rfl, rfl⟩) | (at_builtin; refine appSl wc_len wc_one (by decide) rfl _ _ 22 rfl w.heap.size 33 _ (by rfl) 16 Try.underlying22 infoItm _ [] rfl HO.out _ xs rfl HSn.out (by simp only [List.length_nil, hHL]; unfold maxLen; omega) (by simp only [List.length_nil, hHL]; omega) (by simp) ?_; intro v2 w2 ho2 hk2; rw [List.nil_append] at ho2; have HO2 := Lib.hid (ho2.read wc_len); have HB2 := Lib.hid (HB0.out.trans hk2.toBelow); obtain ⟨a2, c2, rfl⟩ := ho2.slice; clear ho2 hk2))
    rw [hHL] at HO2
    clear HO HSn HB0 hf
    have hA : xs.length ≤ 65536 := by omega
    have HC1 := Lib.hid (Choose_any (.slice a2 L c2) xs x r HXl.out (by omega))
    have HC2 := Lib.hid (rChoose_any (.slice a L c) xs x r HXl.out (by omega))
    have HC3 := Lib.hid (Rank_any (.slice a2 L c2) xs x r HXl.out (by omega))
    have HC4 := Lib.hid (fun ps h1 h2 => rRank_any (.slice a L c) xs x r ps h1 h2 HXl.out hA)
    have HC5 := Lib.hid (Cost_belT x id r HXl.out)
    have HC6 := Lib.hid (fun w => (rCost_bel x id r HXl.out w))
    unfold chosen at HC1 HC2
    generalize costN x id r = cst at HC5 HC6
    obtain ⟨o1, ho1⟩ : ∃ o1, ((pick (keys x r xs)).getD 0) = o1 := ⟨_, rfl⟩
    obtain ⟨s1, hs1⟩ : ∃ s1, (pick (keys x r xs)).isSome = s1 := ⟨_, rfl⟩
    rw [ho1, hs1] at HC1 HC2
    clear hA ho1 hs1
    go_wp2_with fail
    refine (HC1.out _ HO2.out).mono ?_
    rintro e w3 ⟨rfl, hb⟩
    have HB3 := Lib.hid (HB2.out.trans (hb.mono HB2.out.size))
    have HO3 := Lib.hid (HO2.out.keep hb)
    clear hb HC1 HO2 HB2
    go_upto_region 5 with fail
    go_wp2_with fail
    refine (HC2.out _ (HS.out.keep HB3.out)).mono ?_
    rintro e w4 ⟨rfl, hb⟩
    have HB4 := Lib.hid (HB3.out.trans (hb.mono HB3.out.size))
    have HO4 := Lib.hid (HO3.out.keep hb)
    clear hb HC2 HO3 HB3
    go_upto_region 6 with fail
    go_wp2_with fail
    refine (HC5.out _).mono ?_
    rintro e w5 ⟨rfl, hb⟩
    have HB5 := Lib.hid (HB4.out.trans (hb.mono HB4.out.size))
    have HO5 := Lib.hid (HO4.out.keep hb)
    clear hb HC5 HO4 HB4
    go_wp2_with fail
    refine (HC6.out _).mono ?_
    rintro e w6 ⟨rfl, hb⟩
    have HB6 := Lib.hid (HB5.out.trans (hb.mono HB5.out.size))
    have HO6 := Lib.hid (HO5.out.keep hb)
    clear hb HC6 HO5 HB5
    go_wp2_with fail
    refine (HC3.out _ HO6.out).mono ?_
    rintro e w7 ⟨v7, ps, rfl, hrk, hpl, hps, hb⟩
    have HB7 := Lib.hid (HB6.out.trans (hb.mono HB6.out.size))
    have HO7 := Lib.hid (HO6.out.keep hb)
    have HP7 := Lib.hid (hps.read ic_len)
    have HR7 := Lib.hid (And.intro hrk hpl)
    clear hb hrk hpl hps HC3 HO6 HB6
    go_wp2_with fail
    refine (HC4.out ps HR7.out.1 HR7.out.2 _ (HS.out.keep HB7.out)).mono ?_
    rintro e w8 ⟨v8, rfl, hps, hb⟩
    have HB8 := Lib.hid (HB7.out.trans (hb.mono HB7.out.size))
    have HO8 := Lib.hid (HO7.out.keep hb)
    have HP8 := Lib.hid (HP7.out.keep hb)
    have HQ8 := Lib.hid hps
    clear hb hps HC4 HO7 HB7 HP7 HR7
    go_wp2_with fail
    refine (lints_any _ _ (ints ps) _ HP8.out HQ8.out).mono ?_
    rintro e w9 ⟨rfl, hb⟩
    have HB9 := Lib.hid (HB8.out.trans (hb.mono HB8.out.size))
    have HO9 := Lib.hid (HO8.out.keep hb)
    clear hb HO8 HB8 HP8 HQ8
    go_wp2
    go_loopw [69] (fun vi wr => ∃ k : Nat, k ≤ L ∧ vi = .int .i64 k ∧ Below w9.heap.size w9 wr) (fun i _ => L - (intOf i).toNat)
    case atStart => exact ⟨0, by omega, rfl, Below.refl _ _⟩
    case round =>
      obtain ⟨k, hk, rfl, hbw⟩ := hrel
      have HBr := Lib.hid hbw
      have HB := Lib.hid (HB9.out.trans (hbw.mono HB9.out.size))
      have HOr := Lib.hid (HO9.out.keep hbw)
      clear hbw
      by_cases hlt : k < L
      · have hlt' : (k : Int) < L := by omega
        have hk0 : (0 : Int) ≤ k := by omega
        have hi : k < xs.length := by rw [hHL]; exact hlt
        obtain ⟨_, a', cap', he, -, hcell⟩ := HS.out.keep HB.out
        obtain ⟨b, off, e', hbl, hcell⟩ := hcell (by omega)
        have h33 : a = some ⟨b, off, none⟩ := by cases he; exact e'
        subst h33
        obtain ⟨d1, d2⟩ := wcells_at (hcell k hi)
        clear he e' hcell hbl
        obtain ⟨_, a', cap', he, -, hcell⟩ := HOr.out
        obtain ⟨b2, off2, e', hbl, hcell⟩ := hcell (by omega)
        have h33 : a2 = some ⟨b2, off2, none⟩ := by cases he; exact e'
        subst h33
        obtain ⟨d3, d4⟩ := wcells_at (hcell k hi)
        clear he e' hcell hbl
        generalize xs[k] = y at d1 d2 d3 d4
        obtain ⟨p, q⟩ := y
        simp only at d1 d2 d3 d4
        have hnq := fun w => neq_item p q w
        go_upto_region 11 with fail
        go_quiet (fail)
        have HB2 := Lib.hid (HBr.out.drewN' nq)
        clear d1 d2 d3 d4 hnq
        go_wp2
        go_roundw
        case rel => exact ⟨k + 1, by omega, by go_num, HB2.out⟩
        case measure => simp [intOf]; omega
      · obtain rfl : k = L := by omega
        clear hlt HBr HOr
        go_wp2_with (go_at_call 9; refine (awake_any _).mono ?_; rintro e w6 ⟨rfl, hb⟩; have HBe := Lib.hid (HB.out.trans (hb.mono HB.out.size)); clear hb)
        go_ret
        exact ⟨rfl, HBe.out⟩
  · have hf : True → decide ((L : Int) ≤ 40) = false := fun _ => by rw [decide_eq_false_iff_not]; omega
    go_enter Try.func3, Try.ntmps3
    go_wp2_with (first | (go_at_call 9; refine (awake_any _).mono ?_; rintro e w1 ⟨rfl, hb⟩; have HB := Lib.hid hb; clear hb) | (go_at_call 8; refine (few_any _ _ _ _).mono ?_; rintro e w1 ⟨rfl, rfl⟩))
    go_ret
    exact ⟨rfl, HB.out⟩

--LIFT
set_option maxRecDepth 100000 in
theorem liftedTells (os : Os) (started : os.Started) (H : Type) (enc : TypeId × Value → H) :
    ReturnsInHanded {} Try.checked os 3 .any (Rows.crushTellsSpec.pre6 enc Try.prog Try.f3 Rows.crushTellsRow.domain false) (Rows.crushTellsSpec.post enc Try.prog Try.f3 false true false false) := by
  refine lift.law (C := Try.checked) own started (by kernel_rfl) Try.func3
    (ChangeSpec.witness6 (enc := enc) (C := Try.checked) false ⟨#[], #[.slice none 0 0, .int .u32 0, .int .i64 0, .int .i64 0], []⟩ 8 (by kernel_rfl) (by kernel_rfl) (by kernel_rfl) (by kernel_rfl)) laidOut (by kernel_rfl) 4 Try.underlying4 (by kernel_rfl) rfl ?_ ?_
  · intro ds hd
    match ds, hd with
    | [_, _, _, _], _ => rfl
  · intro W base args ds ps hg
    have hA : DataW.TrodAll enc Try.prog W 0 (fun _ => true) true Try.f3.params.toList args.toList ds ps := hg.read
    have hval : ∀ (j : Nat) t v, Try.f3.params[j]? = some t → args[j]? = some v → Value.okWide Try.prog W .any base t v := hg.ok
    rw [Try.params3] at hA hval
    obtain ⟨v0, vs0, d0, ds0, p0, q0, hargs, rfl, rfl, h0, r0⟩ := trodAll_cons hA
    obtain ⟨v1, vs1, d1, ds1, p1, q1, rfl, rfl, rfl, h1, r1⟩ := trodAll_cons r0
    obtain ⟨v2, vs2, d2, ds2, p2, q2, rfl, rfl, rfl, h2, r2⟩ := trodAll_cons r1
    obtain ⟨v3, vs3, d3, ds3, p3, q3, rfl, rfl, rfl, h3, r3⟩ := trodAll_cons r2
    obtain ⟨rfl, rfl, rfl⟩ := trodAll_nil r3
    obtain rfl : args = #[v0, v1, v2, v3] := by cases args; simp_all
    obtain ⟨fs0, hs0, hok0, hcap0, hbulk0⟩ := itm_open (hval 0 22 v0 rfl rfl) h0
    obtain ⟨z1, rfl, rfl, rfl, w1⟩ := open_int Try.underlying23 (hval 1 23 v1 rfl rfl) h1
    have u1 := u32_pos z1 w1
    obtain ⟨n1, rfl⟩ : ∃ n : Nat, z1 = n := ⟨z1.toNat, by omega⟩
    obtain ⟨z2, rfl, rfl, rfl, w2⟩ := open_int Try.underlying3 (hval 2 3 v2 rfl rfl) h2
    obtain ⟨z3, rfl, rfl, rfl, w3⟩ := open_int Try.underlying3 (hval 3 3 v3 rfl rfl) h3
    exact walkTells v0 fs0 n1 z2 z3 (by omega) W hs0

theorem tells_holds : Rows.CrushTellsSaid :=
  OpenClaim.holds_of_wide 3 Try.f3 rfl rfl rfl rfl rfl rfl rfl ⟨rfl, rfl, rfl, rfl, rfl⟩ rfl rfl rfl rfl rfl (by kernel_rfl) Try.func3 (by kernel_rfl)
    (of_decide_eq_true (by kernel_rfl)) (by unfold Func.isWrapper; first | (rw [if_pos (by decide +kernel)]; kernel_rfl) | (rw [if_neg (by decide +kernel)]; exact ⟨rfl, rfl⟩))
    (fun os started H enc _ => liftedTells os started H enc)

#print axioms tells_holds
end Go.Proofs.Ytnacobhhgeljoaa.crush
