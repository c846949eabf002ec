/- The order of ways: comparisons, the first that is not 0. -/
import Derived.Test.YtalnmbfmfeaohaaGreatRows
import Derived.Test.YtalnmbfmfeaohaaGreatFlightBase
import Derived.Sort.Grow
import Derived.Deep.WholeRow
namespace Go.Proofs.YtalnmbfmfeaohaaGreat.flight
open Go.RowKit
open Go.Proofs.YtalnmbfmfeaohaaGreat.kit Go.Proofs.YtalnmbfmfeaohaaGreat.own
set_option linter.unusedVariables false

/-- -1, 0 or 1. -/
def cmp3 (a b : Int) : Int := if a < b then -1 else if b < a then 1 else 0
/-- The order of ways. -/
def ordW (x y : Wy) : Int := if cmp3 x.1 y.1 = 0 then cmp3 x.2 y.2 else cmp3 x.1 y.1
/-- One way stands before another. -/
def ltW (x y : Wy) : Bool := decide (x.1 < y.1 ∨ x.1 = y.1 ∧ x.2 < y.2)
theorem ordW_lt (x y : Wy) : decide (ordW x y < 0) = ltW x y := by
  unfold ordW ltW cmp3
  by_cases h1 : x.1 < y.1
  · simp [h1]
  · by_cases h2 : y.1 < x.1
    · have : ¬ x.1 = y.1 := by omega
      simp [h1, h2, this]
    · have : x.1 = y.1 := by omega
      by_cases h3 : x.2 < y.2
      · simp [this, h3]
      · by_cases h4 : y.2 < x.2 <;> simp [this, h3, h4]

set_option maxHeartbeats 1000000 in
theorem nan_int (a : Int) (w : World) : Calls Tryz.prog 73 #[.int .i64 a] w fun e w' => e = .returned (.bool false) ∧ w = w' := by
  go_enter Tryz.func73, Tryz.ntmps73
  go_wp2
  go_ret
  exact ⟨by simp, rfl⟩

set_option maxHeartbeats 1000000 in
theorem cmp_int (a b : Int) (w : World) : Calls Tryz.prog 66 #[.int .i64 a, .int .i64 b] w fun e w' => e = .returned (.int .i64 (cmp3 a b)) ∧ w = w' := by
  unfold cmp3
  by_cases h1 : a < b
  · rw [if_pos h1]
    go_enter Tryz.func66, Tryz.ntmps66
    go_wp2_with (go_at_call 73; refine (nan_int _ _).mono ?_; rintro e w' ⟨rfl, rfl⟩)
    go_ret
    exact ⟨rfl, rfl⟩
  rw [if_neg h1]
  by_cases h2 : b < a
  · rw [if_pos h2]
    go_enter Tryz.func66, Tryz.ntmps66
    go_wp2_with (go_at_call 73; refine (nan_int _ _).mono ?_; rintro e w' ⟨rfl, rfl⟩)
    go_ret
    exact ⟨rfl, rfl⟩
  · rw [if_neg h2]
    go_enter Tryz.func66, Tryz.ntmps66
    go_wp2_with (go_at_call 73; refine (nan_int _ _).mono ?_; rintro e w' ⟨rfl, rfl⟩)
    go_ret
    exact ⟨rfl, rfl⟩

/-- The first of two that is not 0. -/
def first2 (x y : Int) : Int := if x = 0 then y else x
set_option maxHeartbeats 4000000 in
set_option maxRecDepth 100000 in
theorem or2 (b : Nat) (x0 x1 : Int) (w : World) (h0 : w.cell? ⟨b, 0, none⟩ = some (.int .i64 x0)) (h1 : w.cell? ⟨b, 1, none⟩ = some (.int .i64 x1)) :
    Calls Tryz.prog 65 #[.slice (some ⟨b, 0, none⟩) 2 2] w fun e w' => e = .returned (.int .i64 (first2 x0 x1)) ∧ w = w' := by
  by_cases z0 : x0 = 0
  · by_cases z1 : x1 = 0
    · subst z0; subst z1
      go_enter Tryz.func65, Tryz.ntmps65
      go_wp2
      refine wp_loop_rounds 3 ?_
      rw [rounds_succ]; go_wp2
      rw [rounds_succ]; go_wp2
      rw [rounds_succ]; go_wp2
      go_ret
      exact ⟨rfl, rfl⟩
    · subst z0
      have d : True → (x1 != 0) = true := fun _ => by simp [z1]
      have HE := Lib.hid (show first2 0 x1 = x1 by simp [first2])
      rw [HE.out]
      go_enter Tryz.func65, Tryz.ntmps65
      go_wp2
      refine wp_loop_rounds 2 ?_
      rw [rounds_succ]; go_wp2
      rw [rounds_succ]; go_wp2
      go_ret
      exact ⟨rfl, rfl⟩
  · have d : True → (x0 != 0) = true := fun _ => by simp [z0]
    have HE := Lib.hid (show first2 x0 x1 = x0 by simp [first2, z0])
    rw [HE.out]
    go_enter Tryz.func65, Tryz.ntmps65
    go_wp2
    refine wp_loop_rounds 1 ?_
    rw [rounds_succ]; go_wp2
    go_ret
    exact ⟨rfl, rfl⟩

theorem below_drew {B : Nat} {a u : World} (h : Below B a u) : Below B a u.drew := ⟨h.os, h.tape, h.output, h.size, h.block⟩
theorem or2_new (W : World) (T : TypeId) (x0 x1 : Int) : Calls Tryz.prog 65 #[.slice (some ⟨W.heap.size, 0, none⟩) 2 2] (W.alloc (.cells #[.int .i64 x0, .int .i64 x1] T)).drew
    fun e w' => e = .returned (.int .i64 (first2 x0 x1)) ∧ (W.alloc (.cells #[.int .i64 x0, .int .i64 x1] T)).drew = w' := by
  have h : ((W.alloc (.cells #[.int .i64 x0, .int .i64 x1] T)).drew).heap[W.heap.size]? = some (.cells #[.int .i64 x0, .int .i64 x1] T (0, 0)) := heap_alloc_last W _
  exact or2 W.heap.size x0 x1 _ (by simp only [World.cell?, h]; rfl) (by simp only [World.cell?, h]; rfl)

/-- Two ways' four cells. -/
def TwoW (M N : Nat) (x0 x1 y0 y1 : Value) (W u : World) : Prop :=
  Below W.heap.size W u ∧ u.cell? ⟨M, 0, none⟩ = some x0 ∧ u.cell? ⟨M, 1, none⟩ = some x1 ∧ u.cell? ⟨N, 0, none⟩ = some y0 ∧ u.cell? ⟨N, 1, none⟩ = some y1
theorem keepT {M N : Nat} {x0 x1 y0 y1 : Value} {W u v : World} (hM : M < W.heap.size) (hN : N < W.heap.size) (h : TwoW M N x0 x1 y0 y1 W u) (hb : Below u.heap.size u v) : TwoW M N x0 x1 y0 y1 W v := by
  obtain ⟨h0, h1, h2, h3, h4⟩ := h
  have hm : M < u.heap.size := Nat.lt_of_lt_of_le hM h0.size
  have hn : N < u.heap.size := Nat.lt_of_lt_of_le hN h0.size
  exact ⟨h0.trans (hb.mono h0.size), (hb.cell (p := ⟨M, _, none⟩) hm).trans h1, (hb.cell (p := ⟨M, _, none⟩) hm).trans h2, (hb.cell (p := ⟨N, _, none⟩) hn).trans h3, (hb.cell (p := ⟨N, _, none⟩) hn).trans h4⟩
theorem two_boxes (w : World) (a b c d : Int) : TwoW w.heap.size (w.heap.size + 1) (.int .i64 a) (.int .i64 b) (.int .i64 c) (.int .i64 d)
      ((w.alloc (.cells #[.int .i64 a, .int .i64 b] 40)).alloc (.cells #[.int .i64 c, .int .i64 d] 40))
      ((w.alloc (.cells #[.int .i64 a, .int .i64 b] 40)).alloc (.cells #[.int .i64 c, .int .i64 d] 40)) := by
  have hs := World.size_alloc w (.cells #[.int .i64 a, .int .i64 b] 40)
  have h2 := heap_alloc_last (w.alloc (.cells #[.int .i64 a, .int .i64 b] 40)) (.cells #[.int .i64 c, .int .i64 d] 40)
  have h1 := heap_alloc_last w (.cells #[.int .i64 a, .int .i64 b] 40)
  rw [hs] at h2
  have hb : Below (w.heap.size + 1) (w.alloc (.cells #[.int .i64 a, .int .i64 b] 40)) ((w.alloc (.cells #[.int .i64 a, .int .i64 b] 40)).alloc (.cells #[.int .i64 c, .int .i64 d] 40)) :=
    (Below.refl _ _).alloc (by rw [hs]; exact Nat.le_refl _) _
  have h1' := (hb.block w.heap.size (by omega)).trans h1
  refine ⟨Below.refl _ _, ?_, ?_, ?_, ?_⟩
  · simp only [World.cell?, h1']; rfl
  · simp only [World.cell?, h1']; rfl
  · simp only [World.cell?, h2]; rfl
  · simp only [World.cell?, h2]; rfl

open Go.Sort in
set_option maxHeartbeats 4000000 in
set_option maxRecDepth 100000 in
theorem order_any (x y : Wy) (w : World) :
    Calls Tryz.prog 49 #[.agg #[.int .i64 x.1, .int .i64 x.2], .agg #[.int .i64 y.1, .int .i64 y.2]] w fun e w' => e = .returned (.int .i64 (ordW x y)) ∧ ∃ q os', w' = grow (w.drewN q) os' := by
  obtain ⟨a, b⟩ := x
  obtain ⟨c, d⟩ := y
  simp only
  have h2 := two_boxes w a b c d
  have hg : ∃ os, ((w.alloc (.cells #[.int .i64 a, .int .i64 b] 40)).alloc (.cells #[.int .i64 c, .int .i64 d] 40)) = grow w os := ⟨_, by rw [alloc_eq_grow, alloc_eq_grow, grow_grow]⟩
  have hM : w.heap.size < ((w.alloc (.cells #[.int .i64 a, .int .i64 b] 40)).alloc (.cells #[.int .i64 c, .int .i64 d] 40)).heap.size := by simp; omega
  have hN : w.heap.size + 1 < ((w.alloc (.cells #[.int .i64 a, .int .i64 b] 40)).alloc (.cells #[.int .i64 c, .int .i64 d] 40)).heap.size := by simp
  go_enter Tryz.func49, Tryz.ntmps49
  go_upto_region 1 with fail
  generalize (w.alloc (.cells #[.int .i64 a, .int .i64 b] 40)).alloc (.cells #[.int .i64 c, .int .i64 d] 40) = W at h2 hg hM hN ⊢
  have HG := Lib.hid hg; have HM := Lib.hid hM; have HN := Lib.hid hN
  clear hg hM hN
  generalize w.heap.size + 1 = N at h2 HN ⊢
  obtain ⟨M, hM⟩ : ∃ M, w.heap.size = M := ⟨_, rfl⟩
  rw [hM] at h2 HM ⊢
  clear hM
  have H2 := Lib.hid h2
  obtain ⟨_, c0, c1, d0, d1⟩ := h2
  go_region_held3 (fun u => Below W.heap.size W u ∧ u.cell? ⟨M, 0, none⟩ = some (.int .i64 a) ∧ u.cell? ⟨M, 1, none⟩ = some (.int .i64 b) ∧ u.cell? ⟨N, 0, none⟩ = some (.int .i64 c) ∧ u.cell? ⟨N, 1, none⟩ = some (.int .i64 d))
    (first
      | exact ⟨⟨rfl, rfl, rfl, Nat.le_refl _, fun _ _ => rfl⟩, c0, c1, d0, d1⟩
      | exact keepT HM.out HN.out ⟨⟨rfl, rfl, rfl, Nat.le_refl _, fun _ _ => rfl⟩, c0, c1, d0, d1⟩ (below_drew ((Below.refl _ W).alloc (Nat.le_refl _) _)))
    (first
      | (go_at_call 66; refine (cmp_int _ _ _).mono ?_; rintro e w1 ⟨rfl, rfl⟩)
      | (go_at_call 65; refine (or2_new _ _ _ _).mono ?_; rintro e w1 ⟨rfl, rfl⟩))
  obtain ⟨os, ho⟩ := HG.out
  have HB2 := Lib.hid (show ∃ q os', (W.alloc (.cells #[.int .i64 (cmp3 a c), .int .i64 (cmp3 b d)] 3)).drew = grow (w.drewN q) os' from ⟨1, _, by rw [ho, alloc_eq_grow, grow_grow]; rfl⟩)
  clear ho
  go_wp2
  go_ret
  exact ⟨rfl, HB2.out⟩

theorem grow_below {w w' : World} (h : ∃ q os', w' = Sort.grow (w.drewN q) os') : Below w.heap.size w w' := by
  obtain ⟨q, os, rfl⟩ := h
  refine ⟨rfl, rfl, rfl, ?_, fun k hk => Sort.heap_grow_old (w.drewN q) os hk⟩
  rw [Sort.size_grow]
  exact Nat.le_add_right _ _

end Go.Proofs.YtalnmbfmfeaohaaGreat.flight
