/- The order of bans. -/
import Derived.Test.YtcofmfjhgbihkaaRows
import Derived.Test.YtcofmfjhgbihkaaMapsRow
import Derived.Test.YtcofmfjhgbihkaaMapsInc
import Derived.Sort.Grow
import Derived.Deep.WholeRow
namespace Go.Proofs.Ytcofmfjhgbihkaa.crush
open Go.RowKit
open Go.Proofs.Ytcofmfjhgbihkaa.kit Go.Proofs.Ytcofmfjhgbihkaa.own
set_option linter.unusedVariables false
set_option linter.unusedSimpArgs false

/-- -1, 0 or 1. -/
def cmp3 (a b : Int) : Int := if a < b then -1 else if b < a then 1 else 0

set_option maxHeartbeats 1000000 in
theorem nan_int (a : Int) (w : World) : Calls Try.prog 134 #[.int .i64 a] w fun e w' => e = .returned (.bool false) ∧ w = w' := by
  go_enter Try.func134, Try.ntmps134
  go_wp2
  go_ret
  exact ⟨by simp, rfl⟩

set_option maxHeartbeats 1000000 in
theorem cmp_int (a b : Int) (w : World) : Calls Try.prog 117 #[.int .i64 a, .int .i64 b] w fun e w' => e = .returned (.int .i64 (cmp3 a b)) ∧ w = w' := by
  unfold cmp3
  by_cases h1 : a < b
  · rw [if_pos h1]
    go_enter Try.func117, Try.ntmps117
    go_wp2_with (go_at_call 134; refine (nan_int _ _).mono ?_; rintro e w' ⟨rfl, rfl⟩)
    go_ret
    exact ⟨rfl, rfl⟩
  rw [if_neg h1]
  by_cases h2 : b < a
  · rw [if_pos h2]
    go_enter Try.func117, Try.ntmps117
    go_wp2_with (go_at_call 134; refine (nan_int _ _).mono ?_; rintro e w' ⟨rfl, rfl⟩)
    go_ret
    exact ⟨rfl, rfl⟩
  · rw [if_neg h2]
    go_enter Try.func117, Try.ntmps117
    go_wp2_with (go_at_call 134; refine (nan_int _ _).mono ?_; rintro e w' ⟨rfl, rfl⟩)
    go_ret
    exact ⟨rfl, rfl⟩

set_option maxHeartbeats 1000000 in
theorem nan_i64 (a : Int) (w : World) : Calls Try.prog 156 #[.int .i64 a] w fun e w' => e = .returned (.bool false) ∧ w = w' := by
  go_enter Try.func156, Try.ntmps156
  go_wp2
  go_ret
  exact ⟨by simp, rfl⟩

set_option maxHeartbeats 1000000 in
theorem cmp_i64 (a b : Int) (w : World) : Calls Try.prog 151 #[.int .i64 a, .int .i64 b] w fun e w' => e = .returned (.int .i64 (cmp3 a b)) ∧ w = w' := by
  unfold cmp3
  by_cases h1 : a < b
  · rw [if_pos h1]
    go_enter Try.func151, Try.ntmps151
    go_wp2_with (go_at_call 156; refine (nan_i64 _ _).mono ?_; rintro e w' ⟨rfl, rfl⟩)
    go_ret
    exact ⟨rfl, rfl⟩
  rw [if_neg h1]
  by_cases h2 : b < a
  · rw [if_pos h2]
    go_enter Try.func151, Try.ntmps151
    go_wp2_with (go_at_call 156; refine (nan_i64 _ _).mono ?_; rintro e w' ⟨rfl, rfl⟩)
    go_ret
    exact ⟨rfl, rfl⟩
  · rw [if_neg h2]
    go_enter Try.func151, Try.ntmps151
    go_wp2_with (go_at_call 156; refine (nan_i64 _ _).mono ?_; rintro e w' ⟨rfl, rfl⟩)
    go_ret
    exact ⟨rfl, rfl⟩

/-- The first of two that is not 0. -/
def first2 (x y : Int) : Int := if x = 0 then y else x
set_option maxHeartbeats 4000000 in
set_option maxRecDepth 100000 in
theorem or2 (b : Nat) (x0 x1 : Int) (w : World) (h0 : w.cell? ⟨b, 0, none⟩ = some (.int .i64 x0)) (h1 : w.cell? ⟨b, 1, none⟩ = some (.int .i64 x1)) :
    Calls Try.prog 150 #[.slice (some ⟨b, 0, none⟩) 2 2] w fun e w' => e = .returned (.int .i64 (first2 x0 x1)) ∧ w = w' := by
  by_cases z0 : x0 = 0
  · by_cases z1 : x1 = 0
    · subst z0; subst z1
      go_enter Try.func150, Try.ntmps150
      go_wp2
      refine wp_loop_rounds 3 ?_
      rw [rounds_succ]; go_wp2
      rw [rounds_succ]; go_wp2
      rw [rounds_succ]; go_wp2
      go_ret
      exact ⟨rfl, rfl⟩
    · subst z0
      have d : True → (x1 != 0) = true := fun _ => by simp [z1]
      have HE := Lib.hid (show first2 0 x1 = x1 by simp [first2])
      rw [HE.out]
      go_enter Try.func150, Try.ntmps150
      go_wp2
      refine wp_loop_rounds 2 ?_
      rw [rounds_succ]; go_wp2
      rw [rounds_succ]; go_wp2
      go_ret
      exact ⟨rfl, rfl⟩
  · have d : True → (x0 != 0) = true := fun _ => by simp [z0]
    have HE := Lib.hid (show first2 x0 x1 = x0 by simp [first2, z0])
    rw [HE.out]
    go_enter Try.func150, Try.ntmps150
    go_wp2
    refine wp_loop_rounds 1 ?_
    rw [rounds_succ]; go_wp2
    go_ret
    exact ⟨rfl, rfl⟩

theorem or2_new (W : World) (T : TypeId) (x0 x1 : Int) : Calls Try.prog 150 #[.slice (some ⟨W.heap.size, 0, none⟩) 2 2] (W.alloc (.cells #[.int .i64 x0, .int .i64 x1] T)).drew
    fun e w' => e = .returned (.int .i64 (first2 x0 x1)) ∧ (W.alloc (.cells #[.int .i64 x0, .int .i64 x1] T)).drew = w' := by
  have h : ((W.alloc (.cells #[.int .i64 x0, .int .i64 x1] T)).drew).heap[W.heap.size]? = some (.cells #[.int .i64 x0, .int .i64 x1] T (0, 0)) := heap_alloc_last W _
  exact or2 W.heap.size x0 x1 _ (by simp only [World.cell?, h]; rfl) (by simp only [World.cell?, h]; rfl)


/-- The order of bans. -/
def ordB (a b : BanV) : Int := first2 (cmp3 a.client b.client) (cmp3 a.inst b.inst)
def TwoB (M N : Nat) (x y : BanV) (W u : World) : Prop := Below W.heap.size W u ∧ u.heap[M]? = some (.cells (bc x).toArray 136 (0, 0)) ∧ u.heap[N]? = some (.cells (bc y).toArray 136 (0, 0))
theorem keepB {M N : Nat} {x y : BanV} {W u v : World} (h : TwoB M N x y W u) (hb : Below u.heap.size u v) : TwoB M N x y W v := by
  obtain ⟨h0, h1, h2⟩ := h
  exact ⟨h0.trans (hb.mono h0.size), (hb.block M (Array.getElem?_eq_some_iff.1 h1).1).trans h1, (hb.block N (Array.getElem?_eq_some_iff.1 h2).1).trans h2⟩
theorem bbox_at {u : World} {M T : Nat} {x : BanV} (h : u.heap[M]? = some (.cells (bc x).toArray T (0, 0))) : u.cell? ⟨M, 0, none⟩ = some (.int .i64 x.client) ∧ u.cell? ⟨M, 1, none⟩ = some (.int .i64 x.inst) := by
  constructor <;> · simp only [World.cell?, h]; rfl

open Go.Sort in
set_option maxHeartbeats 4000000 in
set_option maxRecDepth 100000 in
theorem orderBans_any (x y : BanV) (w : World) :
    Calls Try.prog 140 #[.agg (bc x).toArray, .agg (bc y).toArray] w fun e w' => e = .returned (.int .i64 (ordB x y)) ∧ Below w.heap.size w w' := by
  have h2 : TwoB w.heap.size (w.heap.size + 1) x y ((w.alloc (.cells (bc x).toArray 136)).alloc (.cells (bc y).toArray 136)) ((w.alloc (.cells (bc x).toArray 136)).alloc (.cells (bc y).toArray 136)) := by
    refine ⟨Below.refl _ _, ?_, ?_⟩
    · exact ((below_new (w.alloc (.cells (bc x).toArray 136)) (.cells (bc y).toArray 136)).block _ (by simp)).trans (alloc_at w _)
    · have := alloc_at (w.alloc (.cells (bc x).toArray 136)) (.cells (bc y).toArray 136)
      rwa [World.size_alloc] at this
  have hg : Below w.heap.size w ((w.alloc (.cells (bc x).toArray 136)).alloc (.cells (bc y).toArray 136)) := (below_new w _).alloc (by simp) _
  obtain ⟨xi, xw⟩ := x
  obtain ⟨yi, yw⟩ := y
  have HO := Lib.hid (show ordB ⟨xi, xw⟩ ⟨yi, yw⟩ = first2 (cmp3 xi yi) (cmp3 xw yw) from rfl)
  simp only [bc] at h2 hg ⊢
  go_enter Try.func140, Try.ntmps140
  go_upto_region 1 with fail
  generalize (w.alloc (.cells #[.int .i64 xi, .int .i64 xw] 136)).alloc (.cells #[.int .i64 yi, .int .i64 yw] 136) = W at h2 hg ⊢
  have HG := Lib.hid hg
  clear hg
  generalize w.heap.size + 1 = N at h2 ⊢
  obtain ⟨M, hM⟩ : ∃ M, w.heap.size = M := ⟨_, rfl⟩
  have HM := Lib.hid hM
  rw [hM] at h2 ⊢
  clear hM
  have H2 : Hid (TwoB M N ⟨xi, xw⟩ ⟨yi, yw⟩ W W) := Lib.hid h2
  clear h2
  have H3 := Lib.hid (keepB H2.out (below_drew (Below.refl _ W)))
  have H4 := Lib.hid (keepB H2.out (below_drew (below_new W (.cells #[.int .i64 (cmp3 xi yi), .int .i64 (cmp3 xw yw)] 3))))
  obtain ⟨c0, c1⟩ := bbox_at H3.out.2.1
  obtain ⟨d0, d1⟩ := bbox_at H3.out.2.2
  obtain ⟨f0, f1⟩ := bbox_at H4.out.2.1
  obtain ⟨g0, g1⟩ := bbox_at H4.out.2.2
  simp only at c0 c1 d0 d1 f0 f1 g0 g1
  go_region_held3 (fun u => u.cell? ⟨M, 0, none⟩ = some (.int .i64 xi) ∧ u.cell? ⟨M, 1, none⟩ = some (.int .i64 xw) ∧ u.cell? ⟨N, 0, none⟩ = some (.int .i64 yi) ∧ u.cell? ⟨N, 1, none⟩ = some (.int .i64 yw))
    (first
      | exact ⟨c0, c1, d0, d1⟩
      | exact ⟨f0, f1, g0, g1⟩)
    (first
      | (go_at_call 151; refine (cmp_i64 _ _ _).mono ?_; rintro e w1 ⟨rfl, rfl⟩)
      | (go_at_call 117; refine (cmp_int _ _ _).mono ?_; rintro e w1 ⟨rfl, rfl⟩)
      | (go_at_call 150; refine (or2_new _ _ _ _).mono ?_; rintro e w1 ⟨rfl, rfl⟩))
  have HB2 := Lib.hid (show Below w.heap.size w ((W.alloc (.cells #[.int .i64 (cmp3 xi yi), .int .i64 (cmp3 xw yw)] 3)).drew) from below_drew (HG.out.alloc HG.out.size _))
  go_wp2
  go_ret
  exact ⟨by rw [HO.out]; rfl, HB2.out⟩
end Go.Proofs.Ytcofmfjhgbihkaa.crush
