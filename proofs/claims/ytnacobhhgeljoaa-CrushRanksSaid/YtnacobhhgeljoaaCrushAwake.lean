/- The chapter's examples. -/
import Derived.Test.YtnacobhhgeljoaaRows
import Derived.Test.YtnacobhhgeljoaaCrushCount
import Derived.BigQuiet
namespace Go.Proofs.Ytnacobhhgeljoaa.crush
open Go.RowKit
open Go.Proofs.Ytnacobhhgeljoaa.kit Go.Proofs.Ytnacobhhgeljoaa.own
set_option linter.unusedVariables false

theorem sl_i2 (w : World) (a b c d : Int) (e n : Nat) (hn : n = w.heap.size) : Sl wc 2 (w.alloc (.cells #[.int .i64 a, .int .i64 b, .int .i64 c, .int .i64 d] e)) (.slice (some ⟨n, 0, none⟩) 2 2) [(a, b), (c, d)] := by
  subst hn
  refine ⟨by simp, _, _, rfl, fun h => (by cases h), fun _ => ⟨w.heap.size, 0, rfl, by simp, fun j hj i u hu => ?_⟩⟩
  rw [World.cell?_alloc_at _ _ _ _ rfl]
  match j, hj, i, hu with
  | 0, _, 0, hu => simpa [wc] using hu
  | 0, _, 1, hu => simpa [wc] using hu
  | 0, _, i + 2, hu => simp [wc] at hu
  | 1, _, 0, hu => simpa [wc] using hu
  | 1, _, 1, hu => simpa [wc] using hu
  | 1, _, i + 2, hu => simp [wc] at hu
theorem sl_i1 (w : World) (a b : Int) (e n : Nat) (hn : n = w.heap.size) : Sl wc 2 (w.alloc (.cells #[.int .i64 a, .int .i64 b] e)) (.slice (some ⟨n, 0, none⟩) 1 1) [(a, b)] := by
  subst hn
  refine ⟨by simp, _, _, rfl, fun h => (by cases h), fun _ => ⟨w.heap.size, 0, rfl, by simp, fun j hj i u hu => ?_⟩⟩
  rw [World.cell?_alloc_at _ _ _ _ rfl]
  match j, hj, i, hu with
  | 0, _, 0, hu => simpa [wc] using hu
  | 0, _, 1, hu => simpa [wc] using hu
  | 0, _, i + 2, hu => simp [wc] at hu
theorem aw1 : pick (keys 5 0 [(1, 0), (2, -1)]) = none := by decide +kernel
theorem aw2 : pick (keys 5 0 [(9, 1)]) = some 0 := by decide +kernel

set_option maxHeartbeats 8000000 in
set_option maxRecDepth 100000 in
theorem awake_any (w : World) : Calls Try.prog 9 #[] w fun e w' => e = .returned (.bool true) ∧ Below w.heap.size w w' := by
  have HS1 := Lib.hid (sl_i2 w 1 0 2 (-1) 33 _ rfl)
  have HB1 := Lib.hid (below_new w (.cells #[.int .i64 1, .int .i64 0, .int .i64 2, .int .i64 (-1)] 33))
  have mixed : Try.prog.follows .mixedOrders = true := by kernel_rfl
  go_enter Try.func9, Try.ntmps9
  go_wp2_with fail
  refine (Choose_any _ [(1, 0), (2, -1)] 5 0 (by decide) (by decide) _ HS1.out).mono ?_
  rintro e w1 ⟨rfl, hb⟩
  have HB2 := Lib.hid (HB1.out.trans (hb.mono HB1.out.size))
  unfold chosen
  rw [aw1]
  clear hb HS1 HB1
  simp only [Option.getD_none, Option.isSome_none]
  have HS1 := Lib.hid (sl_i1 w1 9 1 33 _ rfl)
  have HB1 := Lib.hid (below_new w1 (.cells #[.int .i64 9, .int .i64 1] 33))
  go_wp2_with fail
  refine (Choose_any _ [(9, 1)] 5 0 (by decide) (by decide) _ HS1.out).mono ?_
  rintro e w2 ⟨rfl, hb⟩
  have HB3 := Lib.hid (HB2.out.trans ((HB1.out.trans (hb.mono HB1.out.size)).mono HB2.out.size))
  unfold chosen
  rw [aw2]
  clear hb HS1 HB1 HB2
  simp only [Option.getD_some, Option.isSome_some]
  have HS1 := Lib.hid (sl_i2 w2 1 65536 2 196608 33 _ rfl)
  have HB1 := Lib.hid (below_new w2 (.cells #[.int .i64 1, .int .i64 65536, .int .i64 2, .int .i64 196608] 33))
  go_wp2_with fail
  refine (Count_any _ [(1, 65536), (2, 196608)] 0 400 (by decide) (by decide) _ HS1.out).mono ?_
  rintro e w3 ⟨v, rfl, hsl, hb⟩
  have HB4 := Lib.hid (HB3.out.trans ((HB1.out.trans (hb.mono HB1.out.size)).mono HB3.out.size))
  have e400 : ints (cntF [(1, 65536), (2, 196608)] 0 (askN 400)) = [98, 302] := by
    have : askN 400 = 400 := by decide
    rw [this, aw_cnt]; rfl
  rw [e400] at hsl
  obtain ⟨_, a, c, rfl, -, hcell⟩ := hsl
  obtain ⟨b, off, rfl, hlt, hcell⟩ := hcell (by simp)
  have d0 := icell_at (hcell 0 (by simp))
  have d1 := icell_at (hcell 1 (by simp))
  simp only [Nat.zero_mul, Nat.one_mul, Nat.add_zero, List.getElem_cons_zero, List.getElem_cons_succ, List.length_cons, List.length_nil, Nat.zero_add, Nat.reduceAdd] at d0 d1 ⊢
  clear hb HS1 HB1 HB3 hcell hlt e400
  go_upto_region 4 with fail
  go_quiet (fail)
  go_wp2
  go_ret
  exact ⟨rfl, HB4.out.drewN' _⟩
end Go.Proofs.Ytnacobhhgeljoaa.crush
