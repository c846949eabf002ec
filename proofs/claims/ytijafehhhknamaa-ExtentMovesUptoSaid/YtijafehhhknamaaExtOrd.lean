/- The order of ways: comparisons, the first that is not 0. -/
import Derived.Test.YtijafehhhknamaaRows
import Derived.Test.YtijafehhhknamaaExtBase
import Derived.Sort.Grow
import Derived.Deep.WholeRow
namespace Go.Proofs.Ytijafehhhknamaa.ext
open Go.RowKit
open Go.Proofs.Ytijafehhhknamaa.kit Go.Proofs.Ytijafehhhknamaa.own
set_option linter.unusedVariables false

/-- -1, 0 or 1. -/
def cmp3 (a b : Int) : Int := if a < b then -1 else if b < a then 1 else 0
/-- The order of ways. -/
def ordW (x y : Wy) : Int := if cmp3 x.1 y.1 = 0 then cmp3 x.2 y.2 else cmp3 x.1 y.1
/-- One way stands before another. -/
def ltW (x y : Wy) : Bool := decide (x.1 < y.1 ∨ x.1 = y.1 ∧ x.2 < y.2)
theorem ordW_lt (x y : Wy) : decide (ordW x y < 0) = ltW x y := by
  unfold ordW ltW cmp3
  by_cases h1 : x.1 < y.1
  · simp [h1]
  · by_cases h2 : y.1 < x.1
    · have : ¬ x.1 = y.1 := by omega
      simp [h1, h2, this]
    · have : x.1 = y.1 := by omega
      by_cases h3 : x.2 < y.2
      · simp [this, h3]
      · by_cases h4 : y.2 < x.2 <;> simp [this, h3, h4]

set_option maxHeartbeats 1000000 in
theorem nan_int (a : Int) (w : World) : Calls Try.prog 50 #[.int .i64 a] w fun e w' => e = .returned (.bool false) ∧ w = w' := by
  go_enter Try.func50, Try.ntmps50
  go_wp2
  go_ret
  exact ⟨by simp, rfl⟩

set_option maxHeartbeats 1000000 in
theorem cmp_int (a b : Int) (w : World) : Calls Try.prog 45 #[.int .i64 a, .int .i64 b] w fun e w' => e = .returned (.int .i64 (cmp3 a b)) ∧ w = w' := by
  unfold cmp3
  by_cases h1 : a < b
  · rw [if_pos h1]
    go_enter Try.func45, Try.ntmps45
    go_wp2_with (go_at_call 50; refine (nan_int _ _).mono ?_; rintro e w' ⟨rfl, rfl⟩)
    go_ret
    exact ⟨rfl, rfl⟩
  rw [if_neg h1]
  by_cases h2 : b < a
  · rw [if_pos h2]
    go_enter Try.func45, Try.ntmps45
    go_wp2_with (go_at_call 50; refine (nan_int _ _).mono ?_; rintro e w' ⟨rfl, rfl⟩)
    go_ret
    exact ⟨rfl, rfl⟩
  · rw [if_neg h2]
    go_enter Try.func45, Try.ntmps45
    go_wp2_with (go_at_call 50; refine (nan_int _ _).mono ?_; rintro e w' ⟨rfl, rfl⟩)
    go_ret
    exact ⟨rfl, rfl⟩

/-- The first of two that is not 0. -/
def first2 (x y : Int) : Int := if x = 0 then y else x
theorem below_drew {B : Nat} {a u : World} (h : Below B a u) : Below B a u.drew := ⟨h.os, h.tape, h.output, h.size, h.block⟩
/-- Two ways' four cells. -/
def TwoW (M N : Nat) (x0 x1 y0 y1 : Value) (W u : World) : Prop :=
  Below W.heap.size W u ∧ u.cell? ⟨M, 0, none⟩ = some x0 ∧ u.cell? ⟨M, 1, none⟩ = some x1 ∧ u.cell? ⟨N, 0, none⟩ = some y0 ∧ u.cell? ⟨N, 1, none⟩ = some y1
theorem keepT {M N : Nat} {x0 x1 y0 y1 : Value} {W u v : World} (hM : M < W.heap.size) (hN : N < W.heap.size) (h : TwoW M N x0 x1 y0 y1 W u) (hb : Below u.heap.size u v) : TwoW M N x0 x1 y0 y1 W v := by
  obtain ⟨h0, h1, h2, h3, h4⟩ := h
  have hm : M < u.heap.size := Nat.lt_of_lt_of_le hM h0.size
  have hn : N < u.heap.size := Nat.lt_of_lt_of_le hN h0.size
  exact ⟨h0.trans (hb.mono h0.size), (hb.cell (p := ⟨M, _, none⟩) hm).trans h1, (hb.cell (p := ⟨M, _, none⟩) hm).trans h2, (hb.cell (p := ⟨N, _, none⟩) hn).trans h3, (hb.cell (p := ⟨N, _, none⟩) hn).trans h4⟩
theorem two_boxes (w : World) (a b c d : Int) : TwoW w.heap.size (w.heap.size + 1) (.int .i64 a) (.int .i64 b) (.int .i64 c) (.int .i64 d)
      ((w.alloc (.cells #[.int .i64 a, .int .i64 b] 48)).alloc (.cells #[.int .i64 c, .int .i64 d] 48))
      ((w.alloc (.cells #[.int .i64 a, .int .i64 b] 48)).alloc (.cells #[.int .i64 c, .int .i64 d] 48)) := by
  have hs := World.size_alloc w (.cells #[.int .i64 a, .int .i64 b] 48)
  have h2 := heap_alloc_last (w.alloc (.cells #[.int .i64 a, .int .i64 b] 48)) (.cells #[.int .i64 c, .int .i64 d] 48)
  have h1 := heap_alloc_last w (.cells #[.int .i64 a, .int .i64 b] 48)
  rw [hs] at h2
  have hb : Below (w.heap.size + 1) (w.alloc (.cells #[.int .i64 a, .int .i64 b] 48)) ((w.alloc (.cells #[.int .i64 a, .int .i64 b] 48)).alloc (.cells #[.int .i64 c, .int .i64 d] 48)) :=
    (Below.refl _ _).alloc (by rw [hs]; exact Nat.le_refl _) _
  have h1' := (hb.block w.heap.size (by omega)).trans h1
  refine ⟨Below.refl _ _, ?_, ?_, ?_, ?_⟩
  · simp only [World.cell?, h1']; rfl
  · simp only [World.cell?, h1']; rfl
  · simp only [World.cell?, h2]; rfl
  · simp only [World.cell?, h2]; rfl

open Go.Sort in
theorem grow_below {w w' : World} (h : ∃ q os', w' = Sort.grow (w.drewN q) os') : Below w.heap.size w w' := by
  obtain ⟨q, os, rfl⟩ := h
  refine ⟨rfl, rfl, rfl, ?_, fun k hk => Sort.heap_grow_old (w.drewN q) os hk⟩
  rw [Sort.size_grow]
  exact Nat.le_add_right _ _

end Go.Proofs.Ytijafehhhknamaa.ext
