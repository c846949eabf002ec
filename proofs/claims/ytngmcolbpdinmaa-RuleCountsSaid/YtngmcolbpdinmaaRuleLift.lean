/- Numbers that came in, opened, with the room that they have. -/
import Derived.Test.YtngmcolbpdinmaaRows
import Derived.Test.YtngmcolbpdinmaaCrushLift
import Derived.Test.YtngmcolbpdinmaaRuleAwake
namespace Go.Proofs.Ytngmcolbpdinmaa.crush
open Go.ChangeShapes Go.WideShapes Go.ChangeAt Go.RowKit
open Go.Proofs.Ytngmcolbpdinmaa.kit Go.Proofs.Ytngmcolbpdinmaa.own Go.Proofs.Ytngmcolbpdinmaa.lift
set_option linter.unusedVariables false

def numOf {H : Type} : DataW H → Int
  | .lit (.int _ a) => a
  | _ => 0
theorem list1 {α : Type} : ∀ (l : List α), l.length = 1 → ∃ a, l = [a]
  | [a], _ => ⟨a, rfl⟩

theorem intsCells : Try.prog.cellsOf 3 = 1 := by kernel_rfl
set_option maxRecDepth 100000 in
theorem ints_open {H : Type} {enc : TypeId × Value → H} {W : World} {r : Reach} {base : Nat} {v : Value} {d : DataW H} {p : List MemPlace}
    (hval : Value.okWide Try.prog W r base 22 v) (h : DataW.Trod enc Try.prog W 0 (fun _ => true) true 22 v d p) :
    ∃ ns : List Int, Sl ic 1 W v ns ∧ (∀ z ∈ ns, I64 z) ∧ CapOk v ns.length := by
  obtain ⟨a0, len, cap, rfl⟩ := okWide_slice Try.underlying22 hval
  obtain ⟨fuel, hf⟩ := h
  rcases Deep.open_slice Try.underlying22 hf with ⟨hcs, hx⟩ | ⟨a, len', cap', m, n, D, Pl, hcs, _, hl, hcap, hm, hx, hi⟩
  · simp [Value.cells] at hcs
    obtain ⟨rfl, rfl, rfl⟩ := hcs
    exact ⟨[], Sl.nil _, by simp, ⟨_, _, rfl, Nat.le_refl _, by omega⟩⟩
  · simp [Value.cells] at hcs
    obtain ⟨rfl, rfl, rfl⟩ := hcs
    simp only [if_true] at hm
    subst hm
    have each : ∀ i, i < m → ∃ z : Int, numOf (D i) = z ∧ I64 z ∧ W.cell? ((a.add (i * 1)).add 0) = some (.int .i64 z) := by
      intro i him
      obtain ⟨cs', hc, ht⟩ := hi i him
      rw [intsCells] at hc
      obtain ⟨c0, rfl⟩ := list1 cs' (World.cells?_some hc).2.1
      obtain ⟨z0, hz0, h2, hw0⟩ := DataW.trod_int Try.underlying3 ht
      cases hz0
      obtain ⟨h2, -⟩ := Prod.mk.inj h2
      refine ⟨z0, by rw [h2]; rfl, ?_, ?_⟩
      · have h0 : -9223372036854775808 ≤ z0 ∧ z0 ≤ 9223372036854775807 := by simpa [Lit.wf, IntKind.min, IntKind.max, IntKind.signed, IntKind.bits] using hw0
        exact h0
      · exact (World.cells?_some hc).2.2 0 (by omega)
    have hlen : ((List.range len).map fun i => numOf (D i)).length = len := by simp
    refine ⟨(List.range len).map fun i => numOf (D i), ⟨by rw [hlen]; unfold maxLen at hcap; omega, some a, m, by rw [hlen], (fun h => by cases h), fun hp => ?_⟩, ?_, ⟨_, _, by rw [hlen], by rw [hlen]; omega, by unfold maxLen at hcap; omega⟩⟩
    · rw [hlen] at hp
      obtain ⟨b, off, spot⟩ := a
      obtain ⟨f0, _, _, c0⟩ := each 0 (by omega)
      obtain rfl : spot = none := by simpa [Addr.add] using World.cell?_spot c0
      refine ⟨b, off, rfl, ?_, ?_⟩
      · have := cell?_lt c0
        simpa [Addr.add] using this
      · intro j hj
        rw [hlen] at hj
        obtain ⟨f, hf, _, c0⟩ := each j (by omega)
        have e : ((List.range len).map fun i => numOf (D i))[j]'(by rw [hlen]; exact hj) = f := by simp [hf]
        rw [e]
        rw [add_plain', add_plain'] at c0
        intro i u hu
        match i, hu with
        | 0, hu => simp [ic] at hu; subst hu; exact c0
        | i + 1, hu => simp [ic] at hu
    · intro f hf
      obtain ⟨i, hi', rfl⟩ := List.mem_map.1 hf
      obtain ⟨f, h1, h2, _⟩ := each i (by have := List.mem_range.1 hi'; omega)
      rw [h1]; exact h2

theorem i64sCells : Try.prog.cellsOf 2 = 1 := by kernel_rfl
set_option maxRecDepth 100000 in
theorem i64s_open {H : Type} {enc : TypeId × Value → H} {W : World} {r : Reach} {base : Nat} {v : Value} {d : DataW H} {p : List MemPlace}
    (hval : Value.okWide Try.prog W r base 23 v) (h : DataW.Trod enc Try.prog W 0 (fun _ => true) true 23 v d p) :
    ∃ ns : List Int, Sl ic 1 W v ns ∧ (∀ z ∈ ns, I64 z) ∧ CapOk v ns.length := by
  obtain ⟨a0, len, cap, rfl⟩ := okWide_slice Try.underlying23 hval
  obtain ⟨fuel, hf⟩ := h
  rcases Deep.open_slice Try.underlying23 hf with ⟨hcs, hx⟩ | ⟨a, len', cap', m, n, D, Pl, hcs, _, hl, hcap, hm, hx, hi⟩
  · simp [Value.cells] at hcs
    obtain ⟨rfl, rfl, rfl⟩ := hcs
    exact ⟨[], Sl.nil _, by simp, ⟨_, _, rfl, Nat.le_refl _, by omega⟩⟩
  · simp [Value.cells] at hcs
    obtain ⟨rfl, rfl, rfl⟩ := hcs
    simp only [if_true] at hm
    subst hm
    have each : ∀ i, i < m → ∃ z : Int, numOf (D i) = z ∧ I64 z ∧ W.cell? ((a.add (i * 1)).add 0) = some (.int .i64 z) := by
      intro i him
      obtain ⟨cs', hc, ht⟩ := hi i him
      rw [i64sCells] at hc
      obtain ⟨c0, rfl⟩ := list1 cs' (World.cells?_some hc).2.1
      obtain ⟨z0, hz0, h2, hw0⟩ := DataW.trod_int Try.underlying2 ht
      cases hz0
      obtain ⟨h2, -⟩ := Prod.mk.inj h2
      refine ⟨z0, by rw [h2]; rfl, ?_, ?_⟩
      · have h0 : -9223372036854775808 ≤ z0 ∧ z0 ≤ 9223372036854775807 := by simpa [Lit.wf, IntKind.min, IntKind.max, IntKind.signed, IntKind.bits] using hw0
        exact h0
      · exact (World.cells?_some hc).2.2 0 (by omega)
    have hlen : ((List.range len).map fun i => numOf (D i)).length = len := by simp
    refine ⟨(List.range len).map fun i => numOf (D i), ⟨by rw [hlen]; unfold maxLen at hcap; omega, some a, m, by rw [hlen], (fun h => by cases h), fun hp => ?_⟩, ?_, ⟨_, _, by rw [hlen], by rw [hlen]; omega, by unfold maxLen at hcap; omega⟩⟩
    · rw [hlen] at hp
      obtain ⟨b, off, spot⟩ := a
      obtain ⟨f0, _, _, c0⟩ := each 0 (by omega)
      obtain rfl : spot = none := by simpa [Addr.add] using World.cell?_spot c0
      refine ⟨b, off, rfl, ?_, ?_⟩
      · have := cell?_lt c0
        simpa [Addr.add] using this
      · intro j hj
        rw [hlen] at hj
        obtain ⟨f, hf, _, c0⟩ := each j (by omega)
        have e : ((List.range len).map fun i => numOf (D i))[j]'(by rw [hlen]; exact hj) = f := by simp [hf]
        rw [e]
        rw [add_plain', add_plain'] at c0
        intro i u hu
        match i, hu with
        | 0, hu => simp [ic] at hu; subst hu; exact c0
        | i + 1, hu => simp [ic] at hu
    · intro f hf
      obtain ⟨i, hi', rfl⟩ := List.mem_map.1 hf
      obtain ⟨f, h1, h2, _⟩ := each i (by have := List.mem_range.1 hi'; omega)
      rw [h1]; exact h2

end Go.Proofs.Ytngmcolbpdinmaa.crush
