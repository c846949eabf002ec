/- The boxes of what changes a leader: the argument's, and the result's somewhere behind it. -/
import Derived.Test.YtcofmfjhgbihkaaRows
import Derived.Test.YtcofmfjhgbihkaaLeadBox
import Derived.Test.YtcofmfjhgbihkaaLeadPut
namespace Go.Proofs.Ytcofmfjhgbihkaa.crush
open Go.RowKit
open Go.Proofs.Ytcofmfjhgbihkaa.kit Go.Proofs.Ytcofmfjhgbihkaa.own
set_option linter.unusedVariables false
set_option linter.unusedSimpArgs false

theorem two_atL (w : World) (o1 o2 : Obj) : ((w.alloc o1).alloc o2).heap[w.heap.size]? = some o1 ∧ ((w.alloc o1).alloc o2).heap[w.heap.size + 1]? = some o2 := by
  refine ⟨((below_new (w.alloc o1) o2).block _ (by simp)).trans (alloc_at w o1), ?_⟩
  have := alloc_at (w.alloc o1) o2
  rw [World.size_alloc] at this
  exact this
theorem three_atL (w : World) (o1 o2 o3 : Obj) : (((w.alloc o1).alloc o2).alloc o3).heap[w.heap.size]? = some o1 ∧ (((w.alloc o1).alloc o2).alloc o3).heap[w.heap.size + 1]? = some o2 ∧ (((w.alloc o1).alloc o2).alloc o3).heap[w.heap.size + 1 + 1]? = some o3 := by
  have h := two_atL w o1 o2
  refine ⟨((below_new _ o3).block _ (by simp; omega)).trans h.1, ((below_new _ o3).block _ (by simp)).trans h.2, ?_⟩
  have := alloc_at ((w.alloc o1).alloc o2) o3
  rw [World.size_alloc, World.size_alloc] at this
  exact this
/-- A row of the call's own, where rows of another kind are changed. -/
theorem Own.keptO {α : Type} {enc : α → List Value} {k e e' B C : Nat} {W W' : World} {v : Value} {xs : List α} (h : Own enc k e W B v xs) (hk : Kept C e' W W') (hne : e ≠ e') : Own enc k e W' B v xs := by
  rcases h.2 with ⟨rfl, h0⟩ | ⟨g, cap, cur, rfl, hB, hg, hr⟩
  · exact ⟨h.1, .inl ⟨rfl, h0⟩⟩
  · have hl : g < W.heap.size := (Array.getElem?_eq_some_iff.1 hg).1
    have := hk.other g hl (fun c fz hc => by rw [hg] at hc; simp at hc; exact hne hc.2.1)
    exact ⟨h.1, .inr ⟨g, cap, cur, rfl, hB, this.trans hg, hr⟩⟩
structure LRes (w W0 : World) (N M : Nat) (st r m : Int) (s : Value) (has : Bool) (val : ByteArray) (t : Value) (W : World) : Prop where
  hN : N = w.heap.size
  hM : N < M
  bel : Below w.heap.size w W
  one : LBox W N st r m s has val t
  two : LBox W M 0 0 0 (.slice none 0 0) false { data := #[] } (.slice none 0 0)
  mid : ∀ k, N < k → k < M → W.heap[k]? = W0.heap[k]?
section
variable {w W0 : World} {N M : Nat} {st r m : Int} {s : Value} {has : Bool} {val : ByteArray} {t : Value} {W W' : World}
theorem LRes.keepN (h : LRes w W0 N M st r m s has val t W) {C : Nat} (hb : Below C W W') (hC : M < C) : LRes w W0 N M st r m s has val t W' := by
  have h1 := h.hM; have h2 := h.hN
  exact ⟨h.hN, h.hM, h.bel.trans (hb.mono (by omega)), (hb.block _ (by omega)).trans h.one, (hb.block _ hC).trans h.two, fun k a b => (hb.block k (by omega)).trans (h.mid k a b)⟩
theorem LRes.keep (h : LRes w W0 N M st r m s has val t W) (hb : Below W.heap.size W W') : LRes w W0 N M st r m s has val t W' := h.keepN hb h.two.lt
theorem LRes.put (h : LRes w W0 N M st r m s has val t W) (st' r' m' : Int) (s' : Value) (has' : Bool) (val' : ByteArray) (t' : Value) : LRes w W0 N M st' r' m' s' has' val' t' (W.setCells N 0 [.int .i64 st', .int .i64 r', .int .i64 m', s', .bool has', .string val', t']) := by
  have h1 := h.hM
  exact ⟨h.hN, h.hM, Below.setCells h.bel (Nat.le_of_eq h.hN.symm) 0 _, h.one.put _ _ _ _ _ _ _, (heap_setCells_other N _ 0 W _ (by omega)).trans h.two, fun k a b => (heap_setCells_other N _ 0 W _ (by omega)).trans (h.mid k a b)⟩
theorem LRes.set1 (h : LRes w W0 N M st r m s has val t W) (o : Nat) (v : Value) {st' r' m' : Int} {s' : Value} {has' : Bool} {val' : ByteArray} {t' : Value} (hb : LBox (W.setCell ⟨N, o, none⟩ v) N st' r' m' s' has' val' t') : LRes w W0 N M st' r' m' s' has' val' t' (W.setCell ⟨N, o, none⟩ v) := by
  have h1 := h.hM
  exact ⟨h.hN, h.hM, h.bel.setCell (p := ⟨N, o, none⟩) (Nat.le_of_eq h.hN.symm) _, hb, (heap_setCell_other _ _ _ _ (by show M ≠ N; omega)).trans h.two, fun k a b => (heap_setCell_other _ _ _ _ (by show k ≠ N; omega)).trans (h.mid k a b)⟩
theorem LRes.set3 (h : LRes w W0 N M st r m s has val t W) (s' : Value) : LRes w W0 N M st r m s' has val t (W.setCell ⟨N, 3, none⟩ s') := h.set1 3 s' (h.one.set3 s')
theorem LRes.set4 (h : LRes w W0 N M st r m s has val t W) (q : Bool) : LRes w W0 N M st r m s q val t (W.setCell ⟨N, 4, none⟩ (.bool q)) := h.set1 4 _ (h.one.set4 q)
theorem LRes.set5 (h : LRes w W0 N M st r m s has val t W) (q : ByteArray) : LRes w W0 N M st r m s has q t (W.setCell ⟨N, 5, none⟩ (.string q)) := h.set1 5 _ (h.one.set5 q)
theorem LRes.set6 (h : LRes w W0 N M st r m s has val t W) (t' : Value) : LRes w W0 N M st r m s has val t' (W.setCell ⟨N, 6, none⟩ t') := h.set1 6 t' (h.one.set6 t')
theorem LTwo.res (h : LTwo w N st r m s has val t W) : LRes w W N (N + 1) st r m s has val t W := ⟨h.hN, by omega, h.bel, h.one, h.two, fun k a b => rfl⟩
/-- What stands behind the result's store. -/
theorem LRes.fin (h : LRes w W0 N M st r m s has val t W) {l : LeadV} {s' t' : Value} (ho : LdO W (M + 1) s' t' l) (vs : List Value) : LdO (W.setCells M 0 vs) w.heap.size s' t' l ∧ Below w.heap.size w (W.setCells M 0 vs) := by
  have h1 := h.hM; have h2 := h.hN
  exact ⟨(ho.farC (by omega) vs 0).mono (by omega), Below.setCells h.bel (b := M) (by omega) 0 _⟩
end
theorem lres_new (w : World) (st r m : Int) (s : Value) (has : Bool) (val : ByteArray) (t : Value) (o : Obj) : ∃ W, W = ((w.alloc (.cells #[.int .i64 st, .int .i64 r, .int .i64 m, s, .bool has, .string val, t] 27)).alloc o).alloc (.cells #[.int .i64 0, .int .i64 0, .int .i64 0, .slice none 0 0, .bool false, .string { data := #[] }, .slice none 0 0] 27) ∧ LRes w W w.heap.size (w.heap.size + 1 + 1) st r m s has val t W ∧ W.heap[w.heap.size + 1]? = some o := by
  have h := three_atL w (.cells #[.int .i64 st, .int .i64 r, .int .i64 m, s, .bool has, .string val, t] 27) o (.cells #[.int .i64 0, .int .i64 0, .int .i64 0, .slice none 0 0, .bool false, .string { data := #[] }, .slice none 0 0] 27)
  exact ⟨_, rfl, ⟨rfl, by omega, ((below_new w _).alloc (by simp) _).alloc (by simp; omega) _, h.1, h.2.2, fun k a b => rfl⟩, h.2.1⟩
end Go.Proofs.Ytcofmfjhgbihkaa.crush
