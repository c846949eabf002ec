/- How often each is chosen, by the program. -/
import Derived.Test.YtngmcolbpdinmaaRows
import Derived.Test.YtngmcolbpdinmaaCrushAsk
namespace Go.Proofs.Ytngmcolbpdinmaa.crush
open Go.RowKit
open Go.Proofs.Ytngmcolbpdinmaa.kit Go.Proofs.Ytngmcolbpdinmaa.own Go.Proofs.Ytngmcolbpdinmaa.iter Go.Proofs.Ytngmcolbpdinmaa.heldin
set_option linter.unusedVariables false
attribute [local go_sem] Oper.semAt_some

theorem flat_ic (xs : List Int) : xs.flatMap ic = xs.map (Value.int .i64) := by
  induction xs with
  | nil => rfl
  | cons x r ih => rw [List.flatMap_cons, ih]; rfl
theorem made_ints (w : World) (n : Nat) (hn : n ≤ 65536) : ∃ w1, (Instr.makeSlice 22 (.int .i64 (n : Nat)) (.int .i64 (n : Nat))).run Try.prog w = .ok (.slice (some ⟨w.heap.size, 0, none⟩) n n) w1 ∧
    OwnAt ic 1 3 w1 w.heap.size n (List.replicate n 0) ∧ Below w.heap.size w w1 := by
  obtain ⟨i0, hi, hz0, hz1, hz2⟩ := info_parts infoInt
  obtain ⟨w1, h1, h2, h3⟩ := run_makeSlice_full (P := Try.prog) w w.heap.size 22 3 i0 (.int .i64 0) 1 Try.underlying22 hi hz0 hz1 .i64 .i64 n (by omega) (by rw [hz2]; omega) (by unfold maxLen; omega) (Nat.le_refl _)
  have e : (Value.int .i64 0).cells = #[.int .i64 0] := rfl
  rw [e, toList_madeCells_one, Nat.mul_one] at h2
  refine ⟨w1, h1, ?_, ⟨h3.os, h3.tape, h3.output, h3.size, fun k hk => h3.block k hk (by simp)⟩⟩
  have ho : Own ic 1 3 w1 w.heap.size (.slice (some ⟨w.heap.size, 0, none⟩) n n) (List.replicate n 0) := by
    unfold Own
    rw [List.length_replicate, flat_ic, List.map_replicate]
    exact h2
  rcases ho.at with ⟨h, _⟩ | ⟨g, cap, h, _, hat⟩
  · cases h
  · simp at h
    obtain ⟨h1, h2⟩ := h
    rw [← h1, ← h2] at hat
    exact hat
theorem OwnAt.set1 {e g cap : Nat} {w : World} {xs : List Int} (h : OwnAt ic 1 e w g cap xs) (i : Nat) (hi : i < xs.length) (x : Int) : OwnAt ic 1 e (w.setCell ⟨g, i, none⟩ (.int .i64 x)) g cap (xs.set i x) := by
  have := h.set ic_len (by decide) i hi x
  rw [Nat.mul_one] at this
  exact this
theorem icells_at {e g cap : Nat} {w : World} {xs : List Int} (h : OwnAt ic 1 e w g cap xs) (i : Nat) (hi : i < xs.length) : w.cell? ⟨g, i, none⟩ = some (.int .i64 xs[i]) := by
  have := icell_at (h.row ic_len i hi)
  rwa [Nat.mul_one] at this

/-- Numbers from 0 on, as the program's. -/
def ints (ns : List Nat) : List Int := ns.map fun n : Nat => (n : Int)
theorem ints_len (ns : List Nat) : (ints ns).length = ns.length := by simp [ints]

/-- The state of 'Count' ahead of a round. -/
structure NBx (N g B : Nat) (w : World) (v : Value) (L : Nat) (x : Nat) (n : Int) (lp : Obj) (ns : List Nat) (W : World) : Prop where
  bel : Below N w W
  lst : W.heap[N]? = some (Obj.cells #[v] 33 (0, 0))
  row : OwnAt ic 1 3 W g L (ints ns)
  out : W.heap[B]? = some (Obj.cells #[.slice (some ⟨g, 0, none⟩) L L] 22 (0, 0))
  fr : W.heap[B + 1]? = some (Obj.cells #[.int .u32 x] 24 (0, 0))
  nn : W.heap[B + 2]? = some (Obj.cells #[.int .i64 n] 3 (0, 0))
  df : W.heap[B + 3]? = some (.deferred (some []))
  lp : W.heap[B + 3 + 1]? = some lp
  ng : N < g
  gb : g < B
theorem NBx.keep {N g B : Nat} {w : World} {v : Value} {L x : Nat} {n : Int} {lp : Obj} {ns : List Nat} {W W' : World} (h : NBx N g B w v L x n lp ns W) (hb : Below W.heap.size W W') : NBx N g B w v L x n lp ns W' := by
  have hl := (Array.getElem?_eq_some_iff.1 h.lp).1
  have h1 := h.ng
  have h2 := h.gb
  exact ⟨h.bel.trans (hb.mono (by omega)), (hb.block _ (by omega)).trans h.lst, h.row.block (hb.block _ (by omega)), (hb.block _ (by omega)).trans h.out, (hb.block _ (by omega)).trans h.fr, (hb.block _ (by omega)).trans h.nn, (hb.block _ (by omega)).trans h.df, (hb.block _ (by omega)).trans h.lp, h1, h2⟩
theorem NBx.putLp {N g B : Nat} {w : World} {v : Value} {L x : Nat} {n : Int} {lp : Obj} {ns : List Nat} {W : World} (h : NBx N g B w v L x n lp ns W) (o : Obj) : NBx N g B w v L x n o ns (W.putObj (B + 3 + 1) o) := by
  have h1 := h.ng
  have h2 := h.gb
  exact ⟨below_putObj' h.bel _ _ (by omega), (World.putObj_heap_other (by omega)).trans h.lst, h.row.block (World.putObj_heap_other (by omega)), (World.putObj_heap_other (by omega)).trans h.out, (World.putObj_heap_other (by omega)).trans h.fr, (World.putObj_heap_other (by omega)).trans h.nn, (World.putObj_heap_other (by omega)).trans h.df, World.putObj_heap_same (Array.getElem?_eq_some_iff.1 h.lp).1, h1, h2⟩
theorem NBx.set {N g B : Nat} {w : World} {v : Value} {L x : Nat} {n : Int} {lp : Obj} {ns : List Nat} {W : World} (h : NBx N g B w v L x n lp ns W) (p : Nat) (hp : p < ns.length) (c : Nat) : NBx N g B w v L x n lp (ns.set p c) (W.setCell ⟨g, p, none⟩ (.int .i64 (c : Int))) := by
  have h1 := h.ng
  have h2 := h.gb
  have e : ints (ns.set p c) = (ints ns).set p (c : Int) := by unfold ints; rw [List.map_set]
  refine ⟨h.bel.setCell (p := ⟨g, p, none⟩) (by show N ≤ g; omega) _, (heap_setCell_other _ _ _ _ (by show N ≠ g; omega)).trans h.lst, by rw [e]; exact h.row.set1 p (by rw [ints_len]; exact hp) _, (heap_setCell_other _ _ _ _ (by show B ≠ g; omega)).trans h.out, (heap_setCell_other _ _ _ _ (by show B + 1 ≠ g; omega)).trans h.fr, (heap_setCell_other _ _ _ _ (by show B + 2 ≠ g; omega)).trans h.nn, (heap_setCell_other _ _ _ _ (by show B + 3 ≠ g; omega)).trans h.df, (heap_setCell_other _ _ _ _ (by show B + 3 + 1 ≠ g; omega)).trans h.lp, h1, h2⟩

/-- A row of numbers is handed back. -/
def NumO (w : World) (ns : List Int) (e : Ending) (w' : World) : Prop := ∃ v, e = .returned v ∧ Sl ic 1 w' v ns ∧ Below w.heap.size w w'

end Go.Proofs.Ytngmcolbpdinmaa.crush
