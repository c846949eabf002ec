/- CrushMoves: the statement is proved as it is given, for every input. -/
import Derived.Test.YtnacobhhgeljoaaRows
import Derived.Test.YtnacobhhgeljoaaCrushAwake
import Derived.Test.YtnacobhhgeljoaaCrushLift
namespace Go.Proofs.Ytnacobhhgeljoaa.crush
open Go.ChangeShapes Go.WideShapes Go.ChangeAt Go.RowKit
open Go.Proofs.Ytnacobhhgeljoaa.kit Go.Proofs.Ytnacobhhgeljoaa.own Go.Proofs.Ytnacobhhgeljoaa.lift
set_option linter.unusedVariables false

theorem idx_of (i : Int) (n : Nat) (hn : 0 < n) (hl : n ≤ 1048576) : ∃ j : Nat, j < n ∧ wrap64 ((IntKind.u64.wrap i).tmod (n : Int)) = (j : Int) := by
  have h0 : 0 ≤ IntKind.u64.wrap i := by
    unfold IntKind.wrap
    simp [IntKind.signed, IntKind.bits]
    omega
  rw [Int.tmod_eq_emod_of_nonneg h0]
  have h1 := Int.emod_nonneg (IntKind.u64.wrap i) (show (n : Int) ≠ 0 by omega)
  have h2 := Int.emod_lt_of_pos (IntKind.u64.wrap i) (show (0 : Int) < n by omega)
  obtain ⟨j, hj⟩ := Int.eq_ofNat_of_zero_le h1
  refine ⟨j, by omega, ?_⟩
  rw [hj]
  unfold wrap64
  omega

set_option maxHeartbeats 1000000 in
theorem few_any (a : Option Addr) (L c : Nat) (w : World) : Calls Try.prog 8 #[.slice a L c] w fun e w' => e = .returned (.bool (decide ((L : Int) ≤ 40))) ∧ w = w' := by
  go_enter Try.func8, Try.ntmps8
  go_wp2
  go_ret
  exact ⟨rfl, rfl⟩

/-- A weight is laid into an own row. -/
theorem OwnAt.setWt {e g cap : Nat} {w : World} {xs : List It} (h : OwnAt wc 2 e w g cap xs) (k : Nat) (hk : k < xs.length) (p q z : Int) (hpq : xs[k] = (p, q)) : OwnAt wc 2 e (w.setCell ⟨g, k * 2 + 1, none⟩ (.int .i64 z)) g cap (xs.set k (p, z)) := by
  obtain ⟨cur, h1, h2, h3⟩ := h.ex
  refine ⟨⟨_, heap_setCell_same w g (k * 2 + 1) cur e (.int .i64 z) h1, by simpa using h2, ?_⟩, by simpa using h.le, h.max⟩
  have hf := flat_set wc_len (by decide) xs k hk (p, z)
  have hat := flat_at wc_len xs k 0 hk (by decide)
  rw [Nat.add_zero, hpq] at hat
  have hat : (xs.flatMap wc)[k * 2]? = some (.int .i64 p) := hat
  have hs : setL (xs.flatMap wc) (k * 2) (wc (p, z)) = (xs.flatMap wc).set (k * 2 + 1) (.int .i64 z) := by
    show setL ((xs.flatMap wc).set (k * 2) (.int .i64 p)) (k * 2 + 1) [.int .i64 z] = _
    have e1 : (xs.flatMap wc).set (k * 2) (.int .i64 p) = xs.flatMap wc := by
      apply List.ext_getElem?
      intro t
      by_cases ht : k * 2 = t
      · subst ht
        rw [List.getElem?_set_self (List.getElem?_eq_some_iff.1 hat).1, hat]
      · rw [List.getElem?_set_ne ht]
    rw [e1]
    rfl
  rw [← hf, hs, ← h3, List.length_set]
  apply List.ext_getElem?
  intro t
  simp only [Array.toList_setIfInBounds, List.getElem?_take, List.getElem?_set, List.length_take]
  by_cases ht : t < xs.length * 2
  · simp only [ht, if_true]
    by_cases he : k * 2 + 1 = t
    · subst he
      have hl : k * 2 + 1 < cur.size := by have := h.le; omega
      simp [hl]
      omega
    · simp [he]
  · simp only [ht, if_false]
    by_cases he : k * 2 + 1 = t
    · omega
    · simp [he]

theorem keys_set (x : Nat) (r : Int) (xs : List It) (k : Nat) (hk : k < xs.length) (p q z : Int) (hpq : xs[k] = (p, q)) : keys x r (xs.set k (p, z)) = reweigh (keys x r xs) k (wtN z) := by
  have h1 := (keys_at x r xs k hk).1
  rw [hpq] at h1
  unfold reweigh
  rw [h1]
  unfold keys
  rw [List.map_set]
  rfl

/-- What the law looks at: raised, lowered, or as it was. -/
theorem moves_math (x : Nat) (r : Int) (xs : List It) (k : Nat) (hk : k < xs.length) (p q z : Int) (hpq : xs[k] = (p, q)) :
    (wtN q < wtN z → ∃ b, pick (keys x r (xs.set k (p, z))) = some b ∧ ∀ a, pick (keys x r xs) = some a → b = a ∨ b = k) ∧
    (wtN z < wtN q → ∃ a, pick (keys x r xs) = some a ∧ (a ≠ k → pick (keys x r (xs.set k (p, z))) = some a)) ∧
    (wtN z = wtN q → pick (keys x r (xs.set k (p, z))) = pick (keys x r xs)) := by
  have hw := (keys_at x r xs k hk).2
  rw [hpq] at hw
  have hl : k < (keys x r xs).length := by rw [keys_len]; exact hk
  rw [keys_set x r xs k hk p q z hpq]
  refine ⟨fun h => raised hl (by rw [hw]; exact h), fun h => lowered hl (by rw [hw]; exact h), fun h => ?_⟩
  rw [h, ← hw, same_w hl]
theorem max_wt (z : Int) : max (min z 1048576) 0 = (wtN z : Int) := by unfold wtN; omega

set_option maxHeartbeats 32000000 in
set_option maxRecDepth 100000 in
theorem walkMoves (v : Value) (xs : List It) (at0 weight : Int) (x : Nat) (r : Int) (hx : x < 4294967296) (w : World) (h : Sl wc 2 w v xs) :
    Calls Try.prog 5 #[v, .int .i64 at0, .int .i64 weight, .int .u32 x, .int .i64 r] w fun e w' => e = .returned (.bool true) ∧ Below w.heap.size w w' := by
  obtain ⟨a, c, rfl⟩ := h.slice
  have HS := Lib.hid h
  obtain ⟨L, hL⟩ : ∃ L, xs.length = L := ⟨_, rfl⟩
  have HL := Lib.hid hL
  rw [hL] at HS ⊢
  have HXl := Lib.hid hx
  clear h hL hx
  rcases Nat.eq_zero_or_pos L with h0 | h0
  · subst h0
    go_enter Try.func5, Try.ntmps5
    go_wp2_with (go_at_call 9; refine (awake_any _).mono ?_; rintro e w1 ⟨rfl, hb⟩; have HB := Lib.hid hb; clear hb)
    go_ret
    exact ⟨rfl, HB.out⟩
  · have hz : True → ((L : Int) == 0) = false := fun _ => by rw [beq_eq_false_iff_ne]; omega
    by_cases h40 : L ≤ 40
    · have hf : True → decide ((L : Int) ≤ 40) = true := fun _ => by rw [decide_eq_true_iff]; omega
      obtain ⟨k, hkL, hik⟩ := idx_of at0 L h0 (by omega)
      have hik' : True → wrap64 ((IntKind.u64.wrap at0).tmod (L : Int)) = (k : Int) := fun _ => hik
      have hk0 : k < xs.length := by rw [HL.out]; exact hkL
      obtain ⟨⟨p, q⟩, hy⟩ : ∃ y, xs[k] = y := ⟨_, rfl⟩
      have HM := Lib.hid (moves_math x r xs k hk0 p q weight hy)
      have HY := Lib.hid hy
      have HO := Lib.hid (own_none (enc := wc) (k := 2) (e := 33) w w.heap.size (Nat.le_refl _))
      have HB0 := Lib.hid (below_new w (.cells #[] 33))
      have hkI : (k : Int) < L := by omega
      have hkI0 : (0 : Int) ≤ k := by omega
      clear hy hik
      go_enter Try.func5, Try.ntmps5
      go_upto_region 4 with (go_at_call 8; refine (few_any _ _ _ _).mono ?_; rintro e w1 ⟨rfl, rfl⟩)
      have hHL : xs.length = L := HL.out
      have HSn := Lib.hid (HS.out.keep HB0.out)
      go_upto_region 5 with (at_builtin; refine appSl wc_len wc_one (by decide) rfl _ _ 22 rfl w.heap.size 33 _ (by rfl) 16 Try.underlying22 infoItm _ [] rfl HO.out _ xs rfl HSn.out (by simp only [List.length_nil, hHL]; unfold maxLen; omega) (by simp only [List.length_nil, hHL]; omega) (by simp) ?_; intro v2 w2 ho2 hk2; rw [List.nil_append] at ho2; have HO2 := Lib.hid ho2; have HB2 := Lib.hid (HB0.out.trans hk2.toBelow); clear ho2 hk2)
      rcases Own.at HO2.out with ⟨-, h9⟩ | ⟨g, cap, rfl, hg, hat⟩
      · rw [h9] at hk0; simp at hk0
      · rw [hHL]
        have HAt := Lib.hid hat
        have HG := Lib.hid hg
        obtain ⟨cur, hc1, hc2, -⟩ := hat.ex
        have hcap := hat.le
        have q0 : w2.cell? ⟨g, k * 2 + 1, none⟩ = some (.int .i64 q) := by
          have h1 := hat.row wc_len k hk0
          rw [HY.out] at h1
          exact h1 1 _ rfl
        have q1 : w2.frozen? ⟨g, k * 2 + 1, none⟩ = false := by simp [World.frozen?, hc1]
        have hSt := hat.setWt k hk0 p q weight HY.out
        have HSt := Lib.hid hSt
        have HB3 := Lib.hid (HB2.out.setCell (p := ⟨g, k * 2 + 1, none⟩) hg (.int .i64 weight))
        clear hat hg hc1 hc2 hcap hSt HO2 HO HB0 HSn
        go_upto_region 6 with fail
        generalize w2.setCell ⟨g, k * 2 + 1, none⟩ (.int .i64 weight) = W3 at HSt HB3 ⊢
        have hS3 := HS.out.keep HB3.out
        have hO3 : Sl wc 2 W3 (.slice (some ⟨g, 0, none⟩) L cap) (xs.set k (p, weight)) := by
          have h1 := (HSt.out.own (B := 0) wc_len (Nat.zero_le _)).read wc_len
          rw [List.length_set, hHL] at h1
          exact h1
        have HC1 := Lib.hid (fun W => Choose_any (.slice a L c) xs x r HXl.out (by rw [hHL]; omega) W)
        have HC2 := Lib.hid (fun W => Choose_any (.slice (some ⟨g, 0, none⟩) L cap) (xs.set k (p, weight)) x r HXl.out (by rw [List.length_set, hHL]; omega) W)
        have HS3 := Lib.hid hS3; have HO3 := Lib.hid hO3
        obtain ⟨_, a', cap', he, -, hcell⟩ := hS3
        have he' : a = a' ∧ c = cap' := by cases he; exact ⟨rfl, rfl⟩
        obtain ⟨rfl, rfl⟩ := he'
        clear he hO3
        obtain ⟨b, off, rfl, hbl, hcell⟩ := hcell (by omega)
        have d1 := (wcells_at (hcell k hk0)).2
        rw [HY.out] at d1
        simp only at d1
        clear hcell hbl q0 q1 HAt HSt HB2 HG hz hf hik'
        unfold chosen at HC1 HC2
        generalize pick (keys x r (xs.set k (p, weight))) = o2 at HM HC2
        generalize pick (keys x r xs) = o1 at HM HC1
        go_upto_region 7 with fail
        rw [max_wt q]
        go_upto_region 8 with fail
        rw [max_wt weight]
        clear d1
        generalize wtN q = wq at HM ⊢
        generalize wtN weight = ww at HM ⊢
        go_wp2_with fail
        refine (HC1.out _ HS3.out).mono ?_
        rintro e w4 ⟨rfl, hb4⟩
        have HB4 := Lib.hid (HB3.out.trans (hb4.mono HB3.out.size))
        have HO4 := Lib.hid (HO3.out.keep hb4)
        clear hb4
        go_upto_region 9 with fail
        go_wp2_with fail
        refine (HC2.out _ HO4.out).mono ?_
        rintro e w5 ⟨rfl, hb5⟩
        have HB5 := Lib.hid (HB4.out.trans (hb5.mono HB4.out.size))
        clear hb5 HC1 HC2 HS3 HO3 HO4 HB3 HB4 HS HXl HY hkI hkI0 hHL hkL hk0 h0 h40 HL
        rcases Nat.lt_trichotomy wq ww with hc | hc | hc
        · obtain ⟨b2, rfl, hab⟩ := HM.out.1 hc
          clear HM
          cases o1 with
          | none =>
            simp only [Option.getD_none, Option.isSome_none, Option.getD_some, Option.isSome_some]
            go_wp2_with (go_at_call 9; refine (awake_any _).mono ?_; rintro e w7 ⟨rfl, hb⟩; have HB7 := Lib.hid (HB5.out.trans (hb.mono HB5.out.size)); clear hb)
            go_ret
            exact ⟨rfl, HB7.out⟩
          | some a1 =>
            simp only [Option.getD_some, Option.isSome_some]
            by_cases h12 : b2 = a1
            · subst h12
              go_wp2_with (go_at_call 9; refine (awake_any _).mono ?_; rintro e w7 ⟨rfl, hb⟩; have HB7 := Lib.hid (HB5.out.trans (hb.mono HB5.out.size)); clear hb)
              go_ret
              exact ⟨rfl, HB7.out⟩
            · obtain rfl : b2 = k := by
                rcases hab a1 rfl with h | h
                · exact absurd h h12
                · exact h
              have hne : True → ((b2 : Int) != (a1 : Int)) = true := fun _ => by simp; omega
              go_wp2_with (go_at_call 9; refine (awake_any _).mono ?_; rintro e w7 ⟨rfl, hb⟩; have HB7 := Lib.hid (HB5.out.trans (hb.mono HB5.out.size)); clear hb)
              go_ret
              exact ⟨rfl, HB7.out⟩
        · have ho := HM.out.2.2 hc.symm
          subst ho hc
          clear HM
          cases o2 with
          | none =>
            simp only [Option.getD_none, Option.isSome_none]
            go_wp2_with (go_at_call 9; refine (awake_any _).mono ?_; rintro e w7 ⟨rfl, hb⟩; have HB7 := Lib.hid (HB5.out.trans (hb.mono HB5.out.size)); clear hb)
            go_ret
            exact ⟨rfl, HB7.out⟩
          | some a1 =>
            simp only [Option.getD_some, Option.isSome_some]
            go_wp2_with (go_at_call 9; refine (awake_any _).mono ?_; rintro e w7 ⟨rfl, hb⟩; have HB7 := Lib.hid (HB5.out.trans (hb.mono HB5.out.size)); clear hb)
            go_ret
            exact ⟨rfl, HB7.out⟩
        · obtain ⟨a1, rfl, hab⟩ := HM.out.2.1 hc
          clear HM
          by_cases hk : a1 = k
          · subst hk
            obtain ⟨z, hz⟩ : ∃ z, o2.getD 0 = z := ⟨_, rfl⟩
            obtain ⟨s, hs⟩ : ∃ s, o2.isSome = s := ⟨_, rfl⟩
            simp only [Option.getD_some, Option.isSome_some, hz, hs]
            go_wp2_with (go_at_call 9; refine (awake_any _).mono ?_; rintro e w7 ⟨rfl, hb⟩; have HB7 := Lib.hid (HB5.out.trans (hb.mono HB5.out.size)); clear hb)
            go_ret
            exact ⟨rfl, HB7.out⟩
          · obtain rfl := hab hk
            have hne : True → ((a1 : Int) != (k : Int)) = true := fun _ => by simp; omega
            simp only [Option.getD_some, Option.isSome_some]
            go_wp2_with (go_at_call 9; refine (awake_any _).mono ?_; rintro e w7 ⟨rfl, hb⟩; have HB7 := Lib.hid (HB5.out.trans (hb.mono HB5.out.size)); clear hb)
            go_ret
            exact ⟨rfl, HB7.out⟩
    · have hf : True → decide ((L : Int) ≤ 40) = false := fun _ => by rw [decide_eq_false_iff_not]; omega
      go_enter Try.func5, Try.ntmps5
      go_wp2_with (first | (go_at_call 9; refine (awake_any _).mono ?_; rintro e w1 ⟨rfl, hb⟩; have HB := Lib.hid hb; clear hb) | (go_at_call 8; refine (few_any _ _ _ _).mono ?_; rintro e w1 ⟨rfl, rfl⟩))
      go_ret
      exact ⟨rfl, HB.out⟩

--LIFT
set_option maxRecDepth 100000 in
theorem liftedMoves (os : Os) (started : os.Started) (H : Type) (enc : TypeId × Value → H) :
    ReturnsInHanded {} Try.checked os 5 .any (Rows.crushMovesSpec.pre6 enc Try.prog Try.f5 Rows.crushMovesRow.domain false) (Rows.crushMovesSpec.post enc Try.prog Try.f5 false true false false) := by
  refine lift.law (C := Try.checked) own started (by kernel_rfl) Try.func5
    (ChangeSpec.witness6 (enc := enc) (C := Try.checked) false ⟨#[], #[.slice none 0 0, .int .i64 0, .int .i64 0, .int .u32 0, .int .i64 0], []⟩ 8 (by kernel_rfl) (by kernel_rfl) (by kernel_rfl) (by kernel_rfl)) laidOut (by kernel_rfl) 4 Try.underlying4 (by kernel_rfl) rfl ?_ ?_
  · intro ds hd
    match ds, hd with
    | [_, _, _, _, _], _ => rfl
  · intro W base args ds ps hg
    have hA : DataW.TrodAll enc Try.prog W 0 (fun _ => true) true Try.f5.params.toList args.toList ds ps := hg.read
    have hval : ∀ (j : Nat) t v, Try.f5.params[j]? = some t → args[j]? = some v → Value.okWide Try.prog W .any base t v := hg.ok
    rw [Try.params5] at hA hval
    obtain ⟨v0, vs0, d0, ds0, p0, q0, hargs, rfl, rfl, h0, r0⟩ := trodAll_cons hA
    obtain ⟨v1, vs1, d1, ds1, p1, q1, rfl, rfl, rfl, h1, r1⟩ := trodAll_cons r0
    obtain ⟨v2, vs2, d2, ds2, p2, q2, rfl, rfl, rfl, h2, r2⟩ := trodAll_cons r1
    obtain ⟨v3, vs3, d3, ds3, p3, q3, rfl, rfl, rfl, h3, r3⟩ := trodAll_cons r2
    obtain ⟨v4, vs4, d4, ds4, p4, q4, rfl, rfl, rfl, h4, r4⟩ := trodAll_cons r3
    obtain ⟨rfl, rfl, rfl⟩ := trodAll_nil r4
    obtain rfl : args = #[v0, v1, v2, v3, v4] := by cases args; simp_all
    obtain ⟨fs0, hs0, hok0, hcap0, hbulk0⟩ := itm_open (hval 0 22 v0 rfl rfl) h0
    obtain ⟨z1, rfl, rfl, rfl, w1⟩ := open_int Try.underlying3 (hval 1 3 v1 rfl rfl) h1
    obtain ⟨z2, rfl, rfl, rfl, w2⟩ := open_int Try.underlying2 (hval 2 2 v2 rfl rfl) h2
    obtain ⟨z3, rfl, rfl, rfl, w3⟩ := open_int Try.underlying23 (hval 3 23 v3 rfl rfl) h3
    have u3 := u32_pos z3 w3
    obtain ⟨n3, rfl⟩ : ∃ n : Nat, z3 = n := ⟨z3.toNat, by omega⟩
    obtain ⟨z4, rfl, rfl, rfl, w4⟩ := open_int Try.underlying3 (hval 4 3 v4 rfl rfl) h4
    exact walkMoves v0 fs0 z1 z2 n3 z4 (by omega) W hs0

theorem moves_holds : Rows.CrushMovesSaid :=
  OpenClaim.holds_of_wide 5 Try.f5 rfl rfl rfl rfl rfl rfl rfl ⟨rfl, rfl, rfl, rfl, rfl⟩ rfl rfl rfl rfl rfl (by kernel_rfl) Try.func5 (by kernel_rfl)
    (of_decide_eq_true (by kernel_rfl)) (by unfold Func.isWrapper; first | (rw [if_pos (by decide +kernel)]; kernel_rfl) | (rw [if_neg (by decide +kernel)]; exact ⟨rfl, rfl⟩))
    (fun os started H enc _ => liftedMoves os started H enc)

#print axioms moves_holds
end Go.Proofs.Ytnacobhhgeljoaa.crush
