/- slices.IndexFunc and slices.ContainsFunc of numbers, storage nodes and pools. -/
import Derived.Test.YtcofmfjhgbihkaaRows
import Derived.Test.YtcofmfjhgbihkaaMapsRow
namespace Go.Proofs.Ytcofmfjhgbihkaa.crush
open Go.RowKit
open Go.Proofs.Ytcofmfjhgbihkaa.kit Go.Proofs.Ytcofmfjhgbihkaa.own
set_option linter.unusedVariables false
set_option linter.unusedSimpArgs false

def IdxF {α : Type} (w : World) (xs : List α) (p : α → Bool) (e : Ending) (w' : World) : Prop := ∃ i : Int, e = .returned (.int .i64 i) ∧ (decide (0 ≤ i) = xs.any p) ∧ Below w.heap.size w w'
theorem any_none {α : Type} (xs : List α) (p : α → Bool) (h : ∀ j (hj : j < xs.length), p xs[j] = false) : xs.any p = false := by
  rw [List.any_eq_false]
  intro x hx
  obtain ⟨j, hj, rfl⟩ := List.getElem_of_mem hx
  rw [h j hj]; simp
theorem any_some {α : Type} (xs : List α) (p : α → Bool) (j : Nat) (hj : j < xs.length) (h : p xs[j] = true) : xs.any p = true := List.any_eq_true.2 ⟨xs[j], List.getElem_mem hj, h⟩
theorem ocells4 {w : World} {b o : Nat} {x : OsdV} (h : w.rangeAt b o (oc x)) : w.cell? ⟨b, o, none⟩ = some (.int .i64 x.boot) ∧ w.cell? ⟨b, o + 1, none⟩ = some (.bool x.up) ∧ w.cell? ⟨b, o + 2, none⟩ = some (.int .i64 x.wt) ∧ w.cell? ⟨b, o + 3, none⟩ = some (.int .i64 x.thru) := ⟨h 0 _ rfl, h 1 _ rfl, h 2 _ rfl, h 3 _ rfl⟩
theorem pcells4 {w : World} {b o : Nat} {x : PoolV} (h : w.rangeAt b o (pc x)) : w.cell? ⟨b, o, none⟩ = some (.int .i64 x.size) ∧ w.cell? ⟨b, o + 1, none⟩ = some (.int .i64 x.min) ∧ w.cell? ⟨b, o + 2, none⟩ = some (.int .i64 x.pgs) ∧ w.cell? ⟨b, o + 3, none⟩ = some (.int .i64 x.dom) := ⟨h 0 _ rfl, h 1 _ rfl, h 2 _ rfl, h 3 _ rfl⟩

end Go.Proofs.Ytcofmfjhgbihkaa.crush
