/- The chapter's examples. -/
import Derived.Test.YtijafehhhknamaaRows
import Derived.Test.YtijafehhhknamaaExtV
import Derived.Test.YtijafehhhknamaaExtH
import Derived.Test.YtijafehhhknamaaExtD
namespace Go.Proofs.Ytijafehhhknamaa.ext
open Go.RowKit Go.Sort
open Go.Proofs.Ytijafehhhknamaa.kit Go.Proofs.Ytijafehhhknamaa.own
set_option linter.unusedVariables false

theorem sl_two (w : World) (x y : Wy) (n : Nat) (hn : n = w.heap.size) : Sl wc 2 (w.alloc (.cells #[.int .i64 x.1, .int .i64 x.2, .int .i64 y.1, .int .i64 y.2] 48)) (.slice (some ⟨n, 0, none⟩) 2 2) [x, y] := by
  subst hn
  refine ⟨by simp, _, _, rfl, fun h => (by cases h), fun _ => ⟨w.heap.size, 0, rfl, by simp, fun j hj i u hu => ?_⟩⟩
  rw [World.cell?_alloc_at _ _ _ _ rfl]
  match j, hj, i, hu with
  | 0, _, 0, hu => simpa [wc] using hu
  | 0, _, 1, hu => simpa [wc] using hu
  | 0, _, i + 2, hu => simp [wc] at hu
  | 1, _, 0, hu => simpa [wc] using hu
  | 1, _, 1, hu => simpa [wc] using hu
  | 1, _, i + 2, hu => simp [wc] at hu
theorem sl_one (w : World) (x : Wy) (n : Nat) (hn : n = w.heap.size) : Sl wc 2 (w.alloc (.cells #[.int .i64 x.1, .int .i64 x.2] 48)) (.slice (some ⟨n, 0, none⟩) 1 1) [x] := sl_new wc_len w x 48 n hn
theorem take1 : takeE 4 [(0, 2), (5, 3)] = ([(0, 2), (5, 2)], [(7, 1)], 0) := by decide
theorem take2 : takeE 3 [(0, 2), (5, 3)] = ([(5, 3)], [(0, 2)], 0) := by decide
theorem take3 : takeE 3 [(0, 2)] = ([], [(0, 2)], 23) := by decide
theorem give4 {r : List Wy} {c : Int} (h : GiveR 10 [(0, 10)] [(0, 1)] r c) : c = 25 :=
  (GiveR_unique h (.inr (.inl ⟨by decide, ⟨0, by decide⟩, rfl, rfl⟩))).2
theorem all4 : allE 10 = [(0, 10)] := by decide
theorem fine2 : ∀ x ∈ ([(0, 2), (5, 3)] : List Wy), Fine x := by unfold Fine; decide
theorem fine1 : ∀ x ∈ ([(0, 2)] : List Wy), Fine x := by unfold Fine; decide
theorem eqS_true {W W' : World} {xs : List Wy} {e : Ending} (h : EqS W xs xs e W') : e = .returned (.bool true) ∧ Below W.heap.size W W' := by
  obtain ⟨r, rfl, hr, hb⟩ := h
  exact ⟨by rw [hr.2 rfl], hb⟩

set_option maxHeartbeats 8000000 in
set_option maxRecDepth 100000 in
theorem awake_any (w : World) : Calls Try.prog 11 #[] w fun e w' => e = .returned (.bool true) ∧ Below w.heap.size w w' := by
  go_enter Try.func11, Try.ntmps11
  have HbN1 := Lib.hid (below_new w (.cells #[.int .i64 0, .int .i64 2, .int .i64 5, .int .i64 3] 48))
  have HSn1 := Lib.hid (sl_two w (0, 2) (5, 3) _ rfl)
  go_wp2_with fail
  refine (Take_any (some ⟨w.heap.size, 0, none⟩) 2 [(0, 2), (5, 3)] 4 _ HSn1.out (Nat.le_refl _) (by unfold maxLen; decide) fine2 (by decide) (by decide)).mono ?_
  rintro e w1 ⟨a1, b1, rfl, ho1, hq1, hb1⟩
  rw [take1] at ho1 hq1
  simp only [take1]
  have HA1 := Lib.hid (ho1.read wc_len); have HQ1 := Lib.hid (hq1.read wc_len)
  obtain ⟨ax1, ac1, rfl⟩ := ho1.slice
  obtain ⟨bx1, bc1, rfl⟩ := hq1.slice
  have HS11 := Lib.hid (HbN1.out.trans (hb1.mono HbN1.out.size))
  have HB1 := Lib.hid (HbN1.out.trans (hb1.mono HbN1.out.size))
  clear ho1 hq1 hb1
  have HbN2 := Lib.hid (below_new w1 (.cells #[.int .i64 0, .int .i64 2, .int .i64 5, .int .i64 3] 48))
  have HSn2 := Lib.hid (sl_two w1 (0, 2) (5, 3) _ rfl)
  go_wp2_with fail
  refine (Take_any (some ⟨w1.heap.size, 0, none⟩) 2 [(0, 2), (5, 3)] 3 _ HSn2.out (Nat.le_refl _) (by unfold maxLen; decide) fine2 (by decide) (by decide)).mono ?_
  rintro e w2 ⟨a2, b2, rfl, ho2, hq2, hb2⟩
  rw [take2] at ho2 hq2
  simp only [take2]
  have HA2 := Lib.hid (ho2.read wc_len); have HQ2 := Lib.hid (hq2.read wc_len)
  obtain ⟨ax2, ac2, rfl⟩ := ho2.slice
  obtain ⟨bx2, bc2, rfl⟩ := hq2.slice
  have HS22 := Lib.hid (HbN2.out.trans (hb2.mono HbN2.out.size))
  have HB2 := Lib.hid (HB1.out.trans ((HbN2.out.trans (hb2.mono HbN2.out.size)).mono HB1.out.size))
  clear ho2 hq2 hb2
  have HbN3 := Lib.hid (below_new w2 (.cells #[.int .i64 0, .int .i64 2] 48))
  have HSn3 := Lib.hid (sl_one w2 (0, 2) _ rfl)
  go_wp2_with fail
  refine (Take_any (some ⟨w2.heap.size, 0, none⟩) 1 [(0, 2)] 3 _ HSn3.out (Nat.le_refl _) (by unfold maxLen; decide) fine1 (by decide) (by decide)).mono ?_
  rintro e w3 ⟨a3, b3, rfl, ho3, hq3, hb3⟩
  rw [take3] at ho3 hq3
  simp only [take3]
  have HA3 := Lib.hid (ho3.read wc_len); have HQ3 := Lib.hid (hq3.read wc_len)
  obtain ⟨ax3, ac3, rfl⟩ := ho3.slice
  obtain ⟨bx3, bc3, rfl⟩ := hq3.slice
  have HS33 := Lib.hid (HbN3.out.trans (hb3.mono HbN3.out.size))
  have HB3 := Lib.hid (HB2.out.trans ((HbN3.out.trans (hb3.mono HbN3.out.size)).mono HB2.out.size))
  clear ho3 hq3 hb3
  go_wp2_with fail
  refine (All_any 10 _).mono ?_
  rintro e w4 ⟨v4, rfl, ho4, hb4⟩
  rw [all4] at ho4
  have HA4 := Lib.hid (ho4.read wc_len)
  obtain ⟨ax4, ac4, rfl⟩ := ho4.slice
  have HB4 := Lib.hid (HB3.out.trans (hb4.mono HB3.out.size)); have HS44 := Lib.hid hb4
  clear ho4 hb4
  have HbN5 := Lib.hid (below_new w4 (.cells #[.int .i64 0, .int .i64 1] 48))
  have HSn5 := Lib.hid (sl_one w4 (0, 1) _ rfl)
  go_wp2_with fail
  refine (Give_any 10 _ _ [(0, 10)] [(0, 1)] _ (HA4.out.keep HbN5.out) HSn5.out (by decide) (by decide) (by unfold Wy.Ok; decide) (by decide)).mono ?_
  rintro e w5 ⟨v5, r5, c5, rfl, ho5, hb5, hr5⟩
  obtain rfl := give4 hr5
  have HB5 := Lib.hid (HB4.out.trans ((HbN5.out.trans (hb5.mono HbN5.out.size)).mono HB4.out.size))
  have HS55 := Lib.hid (HbN5.out.trans (hb5.mono HbN5.out.size))
  obtain ⟨ax5, ac5, rfl⟩ := ho5.slice
  clear ho5 hb5 hr5
  have HA15 := Lib.hid ((((HA1.out.keep HS22.out).keep HS33.out).keep HS44.out).keep HS55.out)
  have HQ15 := Lib.hid ((((HQ1.out.keep HS22.out).keep HS33.out).keep HS44.out).keep HS55.out)
  have HA25 := Lib.hid (((HA2.out.keep HS33.out).keep HS44.out).keep HS55.out)
  have HQ25 := Lib.hid (((HQ2.out.keep HS33.out).keep HS44.out).keep HS55.out)
  have HN6 := Lib.hid (below_new w5 (.cells #[.int .i64 0, .int .i64 2, .int .i64 5, .int .i64 2] 48))
  have HT6 := Lib.hid (sl_two w5 (0, 2) (5, 2) _ rfl)
  go_wp2_with fail
  refine (same_any _ _ _ _ _ (HA15.out.keep HN6.out) HT6.out).mono ?_
  rintro e w6 h6
  obtain ⟨rfl, hb6⟩ := eqS_true h6
  clear h6
  have HS66 := Lib.hid (HN6.out.trans (hb6.mono HN6.out.size))
  have HB6 := Lib.hid (HB5.out.trans (HS66.out.mono HB5.out.size))
  have HN7 := Lib.hid (below_new w6 (.cells #[.int .i64 7, .int .i64 1] 48))
  have HT7 := Lib.hid (sl_one w6 (7, 1) _ rfl)
  clear hb6
  go_wp2_with fail
  refine (same_any _ _ _ _ _ ((HQ15.out.keep HS66.out).keep HN7.out) HT7.out).mono ?_
  rintro e w7 h7
  obtain ⟨rfl, hb7⟩ := eqS_true h7
  clear h7
  have HS77 := Lib.hid (HN7.out.trans (hb7.mono HN7.out.size))
  have HB7 := Lib.hid (HB6.out.trans (HS77.out.mono HB6.out.size))
  have HN8 := Lib.hid (below_new w7 (.cells #[.int .i64 5, .int .i64 3] 48))
  have HT8 := Lib.hid (sl_one w7 (5, 3) _ rfl)
  clear hb7
  go_wp2_with fail
  refine (same_any _ _ _ _ _ (((HA25.out.keep HS66.out).keep HS77.out).keep HN8.out) HT8.out).mono ?_
  rintro e w8 h8
  obtain ⟨rfl, hb8⟩ := eqS_true h8
  clear h8
  have HS88 := Lib.hid (HN8.out.trans (hb8.mono HN8.out.size))
  have HB8 := Lib.hid (HB7.out.trans (HS88.out.mono HB7.out.size))
  have HN9 := Lib.hid (below_new w8 (.cells #[.int .i64 0, .int .i64 2] 48))
  have HT9 := Lib.hid (sl_one w8 (0, 2) _ rfl)
  clear hb8
  go_wp2_with fail
  refine (same_any _ _ _ _ _ ((((HQ25.out.keep HS66.out).keep HS77.out).keep HS88.out).keep HN9.out) HT9.out).mono ?_
  rintro e w9 h9
  obtain ⟨rfl, hb9⟩ := eqS_true h9
  clear h9
  have HB9 := Lib.hid (HB8.out.trans ((HN9.out.trans (hb9.mono HN9.out.size)).mono HB8.out.size))
  clear hb9
  go_wp2
  go_ret
  exact ⟨rfl, HB9.out⟩

end Go.Proofs.Ytijafehhhknamaa.ext
