/- A slice of rows of k cells that came in, opened. -/
import Derived.Test.YtcofmfjhgbihkaaRows
import Derived.Test.YtcofmfjhgbihkaaLift
import Derived.Test.YtcofmfjhgbihkaaCrushBase
import Derived.Deep.Slices
import Derived.Deep.Fields
namespace Go.Proofs.Ytcofmfjhgbihkaa.crush
open Go.ChangeShapes Go.WideShapes Go.ChangeAt Go.RowKit
open Go.Proofs.Ytcofmfjhgbihkaa.kit Go.Proofs.Ytcofmfjhgbihkaa.own Go.Proofs.Ytcofmfjhgbihkaa.lift
set_option linter.unusedVariables false

/-- A slice of rows of k cells, opened. -/
theorem rows_open {H : Type} {enc : TypeId × Value → H} {α : Type} (ec : α → List Value) (Ok : α → Prop) (k t te : Nat) (hk0 : 0 < k) (hk : ∀ x, (ec x).length = k) (ht : Try.prog.underlying t = some (.slice te)) (hce : Try.prog.cellsOf te = k)
    {W : World} {n : Nat} {cs : List Value} {x : DataW H × List MemPlace}
    (op : ∀ (c : List Value) (d : DataW H) (p : List MemPlace) (n' : Nat), DataW.trod enc Try.prog W 0 (fun _ => true) true n' te c = some (d, p) → ∃ f : α, Ok f ∧ c = ec f)
    (h : DataW.trod enc Try.prog W 0 (fun _ => true) true n t cs = some x) :
    ∃ v fs, cs = [v] ∧ Sl ec k W v fs ∧ (∀ f ∈ fs, Ok f) ∧ ∃ x c, v = .slice x fs.length c ∧ fs.length ≤ c := by
  rcases Deep.open_slice ht h with ⟨hcs, hx⟩ | ⟨a, len, cap, m, n2, D, Pl, hcs, _, hl, hcap, hm, hx, hi⟩
  · exact ⟨_, [], hcs, Sl.nil _, by simp, _, _, rfl, Nat.le_refl _⟩
  · simp only [if_true] at hm
    subst hm
    have each : ∀ i, i < m → ∃ f : α, Ok f ∧ ∀ j u, (ec f)[j]? = some u → W.cell? ((a.add (i * k)).add j) = some u := by
      intro i him
      obtain ⟨cs', hc, ht'⟩ := hi i him
      rw [hce] at hc
      obtain ⟨f, h1, rfl⟩ := op _ _ _ _ ht'
      have h2 := (World.cells?_some hc).2.2
      refine ⟨f, h1, fun j u hu => ?_⟩
      have hj : j < k := by have := (List.getElem?_eq_some_iff.1 hu).1; rwa [hk] at this
      rw [h2 j hj]; exact hu
    let fs : List α := (List.range len).pmap (fun i hi => (each i hi).choose) (fun i hi => by have := List.mem_range.1 hi; omega)
    have hlen : fs.length = len := by simp [fs]
    have hget : ∀ j (hj : j < fs.length), ∃ hj' : j < m, fs[j] = (each j hj').choose := by
      intro j hj
      refine ⟨by omega, ?_⟩
      simp [fs]
    refine ⟨_, fs, hcs, ⟨by rw [hlen]; unfold maxLen at hcap; omega, some a, m, by rw [hlen], (fun h => by cases h), fun hp => ?_⟩, ?_, _, _, by rw [hlen], by rw [hlen]; omega⟩
    · rw [hlen] at hp
      obtain ⟨b, off, spot⟩ := a
      obtain ⟨f0, _, c0⟩ := each 0 (by omega)
      have hl0 : 0 < (ec f0).length := by rw [hk]; exact hk0
      have c00 := c0 0 (ec f0)[0] (by simp [hl0])
      obtain rfl : spot = none := by simpa [Addr.add] using World.cell?_spot c00
      refine ⟨b, off, rfl, ?_, ?_⟩
      · have := cell?_lt c00
        simpa [Addr.add] using this
      · intro j hj i u hu
        obtain ⟨hj', he⟩ := hget j hj
        rw [he] at hu
        have := (each j hj').choose_spec.2 i u hu
        rw [add_plain', add_plain'] at this
        exact this
    · intro f hf
      obtain ⟨j, hj, rfl⟩ := List.getElem_of_mem hf
      obtain ⟨hj', he⟩ := hget j hj
      rw [he]
      exact (each j hj').choose_spec.1

end Go.Proofs.Ytcofmfjhgbihkaa.crush
