/- The order of straws. -/
import Derived.Test.YtngmcolbpdinmaaRows
import Derived.Test.YtngmcolbpdinmaaCrushBase
import Derived.Sort.Grow
import Derived.Deep.WholeRow
namespace Go.Proofs.Ytngmcolbpdinmaa.crush
open Go.RowKit
open Go.Proofs.Ytngmcolbpdinmaa.kit Go.Proofs.Ytngmcolbpdinmaa.own
set_option linter.unusedVariables false

/-- -1, 0 or 1. -/
def cmp3 (a b : Int) : Int := if a < b then -1 else if b < a then 1 else 0

set_option maxHeartbeats 1000000 in
theorem nan_int (a : Int) (w : World) : Calls Try.prog 50 #[.int .i64 a] w fun e w' => e = .returned (.bool false) ∧ w = w' := by
  go_enter Try.func50, Try.ntmps50
  go_wp2
  go_ret
  exact ⟨by simp, rfl⟩

set_option maxHeartbeats 1000000 in
theorem cmp_int (a b : Int) (w : World) : Calls Try.prog 55 #[.int .i64 a, .int .i64 b] w fun e w' => e = .returned (.int .i64 (cmp3 a b)) ∧ w = w' := by
  unfold cmp3
  by_cases h1 : a < b
  · rw [if_pos h1]
    go_enter Try.func55, Try.ntmps55
    go_wp2_with (go_at_call 50; refine (nan_int _ _).mono ?_; rintro e w' ⟨rfl, rfl⟩)
    go_ret
    exact ⟨rfl, rfl⟩
  rw [if_neg h1]
  by_cases h2 : b < a
  · rw [if_pos h2]
    go_enter Try.func55, Try.ntmps55
    go_wp2_with (go_at_call 50; refine (nan_int _ _).mono ?_; rintro e w' ⟨rfl, rfl⟩)
    go_ret
    exact ⟨rfl, rfl⟩
  · rw [if_neg h2]
    go_enter Try.func55, Try.ntmps55
    go_wp2_with (go_at_call 50; refine (nan_int _ _).mono ?_; rintro e w' ⟨rfl, rfl⟩)
    go_ret
    exact ⟨rfl, rfl⟩

set_option maxHeartbeats 1000000 in
theorem nan_i64 (a : Int) (w : World) : Calls Try.prog 63 #[.int .i64 a] w fun e w' => e = .returned (.bool false) ∧ w = w' := by
  go_enter Try.func63, Try.ntmps63
  go_wp2
  go_ret
  exact ⟨by simp, rfl⟩

set_option maxHeartbeats 1000000 in
theorem cmp_i64 (a b : Int) (w : World) : Calls Try.prog 54 #[.int .i64 a, .int .i64 b] w fun e w' => e = .returned (.int .i64 (cmp3 a b)) ∧ w = w' := by
  unfold cmp3
  by_cases h1 : a < b
  · rw [if_pos h1]
    go_enter Try.func54, Try.ntmps54
    go_wp2_with (go_at_call 63; refine (nan_i64 _ _).mono ?_; rintro e w' ⟨rfl, rfl⟩)
    go_ret
    exact ⟨rfl, rfl⟩
  rw [if_neg h1]
  by_cases h2 : b < a
  · rw [if_pos h2]
    go_enter Try.func54, Try.ntmps54
    go_wp2_with (go_at_call 63; refine (nan_i64 _ _).mono ?_; rintro e w' ⟨rfl, rfl⟩)
    go_ret
    exact ⟨rfl, rfl⟩
  · rw [if_neg h2]
    go_enter Try.func54, Try.ntmps54
    go_wp2_with (go_at_call 63; refine (nan_i64 _ _).mono ?_; rintro e w' ⟨rfl, rfl⟩)
    go_ret
    exact ⟨rfl, rfl⟩

/-- The first of two that is not 0. -/
def first2 (x y : Int) : Int := if x = 0 then y else x
set_option maxHeartbeats 4000000 in
set_option maxRecDepth 100000 in
theorem or2 (b : Nat) (x0 x1 : Int) (w : World) (h0 : w.cell? ⟨b, 0, none⟩ = some (.int .i64 x0)) (h1 : w.cell? ⟨b, 1, none⟩ = some (.int .i64 x1)) :
    Calls Try.prog 53 #[.slice (some ⟨b, 0, none⟩) 2 2] w fun e w' => e = .returned (.int .i64 (first2 x0 x1)) ∧ w = w' := by
  by_cases z0 : x0 = 0
  · by_cases z1 : x1 = 0
    · subst z0; subst z1
      go_enter Try.func53, Try.ntmps53
      go_wp2
      refine wp_loop_rounds 3 ?_
      rw [rounds_succ]; go_wp2
      rw [rounds_succ]; go_wp2
      rw [rounds_succ]; go_wp2
      go_ret
      exact ⟨rfl, rfl⟩
    · subst z0
      have d : True → (x1 != 0) = true := fun _ => by simp [z1]
      have HE := Lib.hid (show first2 0 x1 = x1 by simp [first2])
      rw [HE.out]
      go_enter Try.func53, Try.ntmps53
      go_wp2
      refine wp_loop_rounds 2 ?_
      rw [rounds_succ]; go_wp2
      rw [rounds_succ]; go_wp2
      go_ret
      exact ⟨rfl, rfl⟩
  · have d : True → (x0 != 0) = true := fun _ => by simp [z0]
    have HE := Lib.hid (show first2 x0 x1 = x0 by simp [first2, z0])
    rw [HE.out]
    go_enter Try.func53, Try.ntmps53
    go_wp2
    refine wp_loop_rounds 1 ?_
    rw [rounds_succ]; go_wp2
    go_ret
    exact ⟨rfl, rfl⟩

theorem or2_new (W : World) (T : TypeId) (x0 x1 : Int) : Calls Try.prog 53 #[.slice (some ⟨W.heap.size, 0, none⟩) 2 2] (W.alloc (.cells #[.int .i64 x0, .int .i64 x1] T)).drew
    fun e w' => e = .returned (.int .i64 (first2 x0 x1)) ∧ (W.alloc (.cells #[.int .i64 x0, .int .i64 x1] T)).drew = w' := by
  have h : ((W.alloc (.cells #[.int .i64 x0, .int .i64 x1] T)).drew).heap[W.heap.size]? = some (.cells #[.int .i64 x0, .int .i64 x1] T (0, 0)) := heap_alloc_last W _
  exact or2 W.heap.size x0 x1 _ (by simp only [World.cell?, h]; rfl) (by simp only [World.cell?, h]; rfl)


/-- The order of straws. -/
def ordS (a b : Str) : Int := first2 (cmp3 ((a.cost * b.wt : Nat) : Int) ((b.cost * a.wt : Nat) : Int)) (cmp3 (a.place : Int) (b.place : Int))
/-- Costs and weights are small. -/
def Str.Low (s : Str) : Prop := s.cost ≤ 1048576 ∧ s.wt ≤ 1048576 ∧ s.place ≤ 1000000000
theorem low_prod {a b : Nat} (ha : a ≤ 1048576) (hb : b ≤ 1048576) : IntKind.i64.wrap ((a : Int) * (b : Int)) = ((a * b : Nat) : Int) := by
  have h : a * b ≤ 1048576 * 1048576 := Nat.mul_le_mul ha hb
  have e : ((a : Int) * (b : Int)) = ((a * b : Nat) : Int) := by simp
  rw [e, IntKind.wrap_i64]
  generalize a * b = p at h
  omega

/-- The cells of two straws. -/
def TwoS (M N : Nat) (x y : Str) (W u : World) : Prop := Below W.heap.size W u ∧ u.heap[M]? = some (sbox x) ∧ u.heap[N]? = some (sbox y)
theorem keepS {M N : Nat} {x y : Str} {W u v : World} (h : TwoS M N x y W u) (hb : Below u.heap.size u v) : TwoS M N x y W v := by
  obtain ⟨h0, h1, h2⟩ := h
  exact ⟨h0.trans (hb.mono h0.size), (hb.block M (Array.getElem?_eq_some_iff.1 h1).1).trans h1, (hb.block N (Array.getElem?_eq_some_iff.1 h2).1).trans h2⟩

open Go.Sort in
set_option maxHeartbeats 4000000 in
set_option maxRecDepth 100000 in
theorem compare_any (x y : Str) (hx : x.Low) (hy : y.Low) (w : World) :
    Calls Try.prog 43 #[.agg (sc x).toArray, .agg (sc y).toArray] w fun e w' => e = .returned (.int .i64 (ordS x y)) ∧ ∃ q os', w' = grow (w.drewN q) os' := by
  have h2 : TwoS w.heap.size (w.heap.size + 1) x y ((w.alloc (sbox x)).alloc (sbox y)) ((w.alloc (sbox x)).alloc (sbox y)) := by
    refine ⟨Below.refl _ _, ?_, ?_⟩
    · exact ((below_new (w.alloc (sbox x)) (sbox y)).block _ (by simp)).trans (alloc_at w _)
    · have := alloc_at (w.alloc (sbox x)) (sbox y)
      rwa [World.size_alloc] at this
  have hg : ∃ os, ((w.alloc (sbox x)).alloc (sbox y)) = grow w os := ⟨_, by rw [alloc_eq_grow, alloc_eq_grow, grow_grow]⟩
  have p1 := low_prod hx.1 hy.2.1
  have p2 := low_prod hy.1 hx.2.1
  obtain ⟨xi, xw, xp, xc⟩ := x
  obtain ⟨yi, yw, yp, yc⟩ := y
  have HO := Lib.hid (show ordS ⟨xi, xw, xp, xc⟩ ⟨yi, yw, yp, yc⟩ = first2 (cmp3 ((xc * yw : Nat) : Int) ((yc * xw : Nat) : Int)) (cmp3 (xp : Int) (yp : Int)) from rfl)
  simp only [sc, sbox] at h2 hg p1 p2 ⊢
  generalize hP : xc * yw = P1 at p1 HO
  generalize hP' : yc * xw = P2 at p2 HO
  clear hP hP' hx hy
  have e1 : True → IntKind.i64.wrap ((xc : Int) * (yw : Int)) = (P1 : Int) := fun _ => p1
  have e2 : True → IntKind.i64.wrap ((yc : Int) * (xw : Int)) = (P2 : Int) := fun _ => p2
  clear p1 p2
  go_enter Try.func43, Try.ntmps43
  go_upto_region 1 with fail
  generalize (w.alloc (.cells #[.int .i64 xi, .int .i64 (xw : Int), .int .i64 (xp : Int), .int .i64 (xc : Int)] 69)).alloc (.cells #[.int .i64 yi, .int .i64 (yw : Int), .int .i64 (yp : Int), .int .i64 (yc : Int)] 69) = W at h2 hg ⊢
  have HG := Lib.hid hg
  clear hg
  generalize w.heap.size + 1 = N at h2 ⊢
  obtain ⟨M, hM⟩ : ∃ M, w.heap.size = M := ⟨_, rfl⟩
  rw [hM] at h2 ⊢
  clear hM
  have H2 : Hid (TwoS M N ⟨xi, xw, xp, xc⟩ ⟨yi, yw, yp, yc⟩ W W) := Lib.hid h2
  clear h2
  have H3 := Lib.hid (keepS H2.out (below_drew (Below.refl _ W)))
  have H4 := Lib.hid (keepS H2.out (below_drew (below_new W (.cells #[.int .i64 (cmp3 (P1 : Int) (P2 : Int)), .int .i64 (cmp3 (xp : Int) (yp : Int))] 3))))
  obtain ⟨c0, c1, c2, c3⟩ := sbox_at H3.out.2.1
  obtain ⟨d0, d1, d2, d3⟩ := sbox_at H3.out.2.2
  obtain ⟨f0, f1, f2, f3⟩ := sbox_at H4.out.2.1
  obtain ⟨g0, g1, g2, g3⟩ := sbox_at H4.out.2.2
  simp only at c1 c2 c3 d1 d2 d3 f1 f2 f3 g1 g2 g3
  clear c0 d0 f0 g0
  go_region_held3 (fun u => u.cell? ⟨M, 1, none⟩ = some (.int .i64 (xw : Int)) ∧ u.cell? ⟨M, 2, none⟩ = some (.int .i64 (xp : Int)) ∧ u.cell? ⟨M, 3, none⟩ = some (.int .i64 (xc : Int)) ∧ u.cell? ⟨N, 1, none⟩ = some (.int .i64 (yw : Int)) ∧ u.cell? ⟨N, 2, none⟩ = some (.int .i64 (yp : Int)) ∧ u.cell? ⟨N, 3, none⟩ = some (.int .i64 (yc : Int)))
    (first
      | exact ⟨c1, c2, c3, d1, d2, d3⟩
      | exact ⟨f1, f2, f3, g1, g2, g3⟩)
    (first
      | (go_at_call 54; refine (cmp_i64 _ _ _).mono ?_; rintro e w1 ⟨rfl, rfl⟩)
      | (go_at_call 55; refine (cmp_int _ _ _).mono ?_; rintro e w1 ⟨rfl, rfl⟩)
      | (go_at_call 53; refine (or2_new _ _ _ _).mono ?_; rintro e w1 ⟨rfl, rfl⟩))
  obtain ⟨os, ho⟩ := HG.out
  have HB2 := Lib.hid (show ∃ q os', (W.alloc (.cells #[.int .i64 (cmp3 (P1 : Int) (P2 : Int)), .int .i64 (cmp3 (xp : Int) (yp : Int))] 3)).drew = grow (w.drewN q) os' from ⟨1, _, by rw [ho, alloc_eq_grow, grow_grow]; rfl⟩)
  clear ho
  go_wp2
  go_ret
  exact ⟨by rw [HO.out]; rfl, HB2.out⟩

/-- One straw is ahead of one that stands before it in the list. -/
theorem ordS_lt {a b : Str} (h : b.place < a.place) : decide (ordS a b < 0) = decide (a.cost * b.wt < b.cost * a.wt) := by
  unfold ordS
  generalize a.cost * b.wt = p
  generalize b.cost * a.wt = q
  unfold first2 cmp3
  by_cases h1 : p < q
  · have : (p : Int) < q := by omega
    simp [this, h1]
  · have n1 : ¬ (p : Int) < q := by omega
    by_cases h2 : q < p
    · have : (q : Int) < p := by omega
      simp [n1, this, h1]
    · have n2 : ¬ (q : Int) < p := by omega
      have n3 : ¬ (a.place : Int) < b.place := by omega
      have n4 : (b.place : Int) < a.place := by omega
      simp [n1, n2, n3, n4, h1]

end Go.Proofs.Ytngmcolbpdinmaa.crush
