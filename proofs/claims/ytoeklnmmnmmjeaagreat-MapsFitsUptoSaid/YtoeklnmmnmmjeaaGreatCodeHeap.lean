/- Six variables in boxes: where they lie; and a variable of one cell that is handed back. -/
import Derived.Test.YtoeklnmmnmmjeaaGreatCodeMath
import Derived.Test.YtoeklnmmnmmjeaaGreatIter
namespace Go.Proofs.YtoeklnmmnmmjeaaGreat.cm
open Go.RowKit
open Go.Proofs.YtoeklnmmnmmjeaaGreat.kit Go.Proofs.YtoeklnmmnmmjeaaGreat.iter

/-- .. of a variable of one cell. -/
theorem ret_cell_one {P : Program} {fn : Func} {t : Tmp} {T e : TypeId} {tmps : Array Value} {w : World} {b : Nat} {v : Value} (h : fn.results = #[.cell t T]) (ht : tmps.getD t undef = .pointer (some ⟨b, 0, none⟩))
    (hc : w.cell? ⟨b, 0, none⟩ = some v) (hu : P.underlying T = some (.slice e)) : (results fn tmps).run P w = .ok v w := by
  have ht' : tmps[t]?.getD undef = .pointer (some ⟨b, 0, none⟩) := by simpa using ht
  have ha : (isAgg T).run P w = .ok false w := by
    unfold isAgg
    rw [Sem.run_bind, run_underlying hu w]
    simp
  simp [results, h, ht', asAddr, loadVar, Sem.run_bind, ha, hc]

theorem alloc_heap (w : World) (o : Obj) : (w.alloc o).heap = w.heap.push o := rfl

theorem six_alloc (w : World) (o0 o1 o2 o3 o4 o5 : Obj) :
    ((((((w.alloc o0).alloc o1).alloc o2).alloc o3).alloc o4).alloc o5).heap.size = w.heap.size + 6 ∧
    ((((((w.alloc o0).alloc o1).alloc o2).alloc o3).alloc o4).alloc o5).heap[w.heap.size]? = some o0 ∧
    ((((((w.alloc o0).alloc o1).alloc o2).alloc o3).alloc o4).alloc o5).heap[w.heap.size + 1]? = some o1 ∧
    ((((((w.alloc o0).alloc o1).alloc o2).alloc o3).alloc o4).alloc o5).heap[w.heap.size + 2]? = some o2 ∧
    ((((((w.alloc o0).alloc o1).alloc o2).alloc o3).alloc o4).alloc o5).heap[w.heap.size + 3]? = some o3 ∧
    ((((((w.alloc o0).alloc o1).alloc o2).alloc o3).alloc o4).alloc o5).heap[w.heap.size + 4]? = some o4 ∧
    ((((((w.alloc o0).alloc o1).alloc o2).alloc o3).alloc o4).alloc o5).heap[w.heap.size + 5]? = some o5 ∧
    Below w.heap.size w ((((((w.alloc o0).alloc o1).alloc o2).alloc o3).alloc o4).alloc o5) := by
  refine ⟨by simp, ?_, ?_, ?_, ?_, ?_, ?_, ?_⟩
  · simp only [alloc_heap, Array.getElem?_push, Array.size_push]; simp; repeat rw [if_neg (by omega)]
  · simp only [alloc_heap, Array.getElem?_push, Array.size_push]; simp
  · simp only [alloc_heap, Array.getElem?_push, Array.size_push]; simp
  · simp only [alloc_heap, Array.getElem?_push, Array.size_push]; simp
  · simp only [alloc_heap, Array.getElem?_push, Array.size_push]; simp
  · simp only [alloc_heap, Array.getElem?_push, Array.size_push]; simp
  · exact ((((((Below.refl _ w).alloc (Nat.le_refl _) _).alloc (by simp) _).alloc (by simp; omega) _).alloc (by simp; omega) _).alloc (by simp; omega) _).alloc (by simp; omega) _

/-- A variable's box. -/
abbrev Box (W : World) (b : Nat) (t : TypeId) (v : Value) : Prop := W.heap[b]? = some (.cells #[v] t (0, 0))
theorem box_cell {W : World} {b : Nat} {t : TypeId} {v : Value} (h : Box W b t v) : W.cell? ⟨b, 0, none⟩ = some v := by simp [World.cell?, h]
theorem box_frozen {W : World} {b : Nat} {t : TypeId} {v : Value} (h : Box W b t v) : W.frozen? ⟨b, 0, none⟩ = false := by simp [World.frozen?, h]
theorem box_lt {W : World} {b : Nat} {t : TypeId} {v : Value} (h : Box W b t v) : b < W.heap.size := (Array.getElem?_eq_some_iff.1 h).1
theorem cell_other (w : World) (b : Nat) (v : Value) (k : Nat) (h : k ≠ b) : (w.setCell ⟨b, 0, none⟩ v).heap[k]? = w.heap[k]? := Below.heap_setCell w ⟨b, 0, none⟩ v k h
theorem box_set {W : World} {b : Nat} {t : TypeId} {v : Value} (h : Box W b t v) (v' : Value) : Box (W.setCell ⟨b, 0, none⟩ v') b t v' := Boxed.set v' h

end Go.Proofs.YtoeklnmmnmmjeaaGreat.cm
