/- Weights of nodes, by the program and by the document. -/
import Derived.Test.YtngmcolbpdinmaaRows
import Derived.Test.YtngmcolbpdinmaaCrushBase
import Derived.Test.YtngmcolbpdinmaaRuleMath
namespace Go.Proofs.Ytngmcolbpdinmaa.crush
open Go.RowKit
open Go.Proofs.Ytngmcolbpdinmaa.kit Go.Proofs.Ytngmcolbpdinmaa.own
set_option linter.unusedVariables false

theorem int_at {w : World} {v : Value} {xs : List Int} (h : Sl ic 1 w v xs) {j : Nat} (hj : j < xs.length) : ∃ b off c, v = .slice (some (⟨b, off, none⟩ : Addr)) xs.length c ∧ b < w.heap.size ∧ ∀ j (hj : j < xs.length), w.cell? ⟨b, off + j, none⟩ = some (.int .i64 xs[j]) := by
  obtain ⟨_, a', c', rfl, -, hc0⟩ := h
  obtain ⟨b, off, rfl, hb, hc⟩ := hc0 (by omega)
  refine ⟨b, off, c', rfl, hb, fun j hj => ?_⟩
  have := icell_at (hc j hj)
  rwa [Nat.mul_one] at this

set_option maxHeartbeats 4000000 in
set_option maxRecDepth 100000 in
theorem nweight_any (v : Value) (ws : List Int) (i : Nat) (hi : i < 9223372036854775807) (w : World) (h : Sl ic 1 w v ws) : Calls Try.prog 28 #[v, .int .i64 i] w fun e w' => e = .returned (.int .i64 (wtAt ws i)) ∧ w' = w := by
  have hi0 : (0 : Int) ≤ i := by omega
  by_cases hlt : i < ws.length
  · obtain ⟨b, off, c, rfl, -, hc⟩ := int_at h hlt
    have c1 := hc i hlt
    have e : wtAt ws i = max 0 (min ws[i] 1048576) := by unfold wtAt; rw [List.getD_eq_getElem?_getD, List.getElem?_eq_getElem hlt]; rfl
    rw [e]
    generalize ws[i] = z at c1 ⊢
    have hlt' : (i : Int) < ws.length := by omega
    generalize ws.length = L at hlt' ⊢
    clear hc h e hlt
    go_enter Try.func28, Try.ntmps28
    go_wp2
    go_ret
    first | exact ⟨rfl, rfl⟩ | (refine ⟨?_, rfl⟩; congr 2; omega)
  · obtain ⟨a, c, rfl⟩ := h.slice
    have e : wtAt ws i = 0 := by unfold wtAt; rw [List.getD_eq_getElem?_getD, List.getElem?_eq_none (by omega)]; rfl
    rw [e]
    have hlt' : (ws.length : Int) ≤ i := by omega
    generalize ws.length = L at hlt' ⊢
    clear h e hlt
    go_enter Try.func28, Try.ntmps28
    go_wp2
    go_ret
    exact ⟨rfl, rfl⟩

set_option maxHeartbeats 4000000 in
set_option maxRecDepth 100000 in
theorem nrweight_any (v : Value) (ws : List Int) (i : Nat) (hi : i < 9223372036854775807) (w : World) (h : Sl ic 1 w v ws) : Calls Try.prog 36 #[v, .int .i64 i] w fun e w' => e = .returned (.int .i64 (wtAt ws i)) ∧ w' = w := by
  have hi0 : (0 : Int) ≤ i := by omega
  by_cases hlt : i < ws.length
  · obtain ⟨b, off, c, rfl, -, hc⟩ := int_at h hlt
    have c1 := hc i hlt
    have e : wtAt ws i = min (max ws[i] 0) 1048576 := by unfold wtAt; rw [List.getD_eq_getElem?_getD, List.getElem?_eq_getElem hlt]; simp only [Option.getD_some]; omega
    rw [e]
    generalize ws[i] = z at c1 ⊢
    have hlt' : (i : Int) < ws.length := by omega
    generalize ws.length = L at hlt' ⊢
    clear hc h e hlt
    go_enter Try.func36, Try.ntmps36
    go_wp2
    go_ret
    first | exact ⟨rfl, rfl⟩ | (refine ⟨?_, rfl⟩; congr 2; omega)
  · obtain ⟨a, c, rfl⟩ := h.slice
    have e : wtAt ws i = 0 := by unfold wtAt; rw [List.getD_eq_getElem?_getD, List.getElem?_eq_none (by omega)]; rfl
    rw [e]
    have hlt' : (ws.length : Int) ≤ i := by omega
    generalize ws.length = L at hlt' ⊢
    clear h e hlt
    go_enter Try.func36, Try.ntmps36
    go_wp2
    go_ret
    exact ⟨rfl, rfl⟩

end Go.Proofs.Ytngmcolbpdinmaa.crush
