/- A row of acts that came in. -/
import Derived.Test.YtmipjhbbbpcdlaaRows
import Derived.Test.YtmipjhbbbpcdlaaSectorLift
namespace Go.Proofs.Ytmipjhbbbpcdlaa.sector
open Go.ChangeShapes Go.WideShapes Go.ChangeAt Go.RowKit
open Go.Proofs.Ytmipjhbbbpcdlaa.kit Go.Proofs.Ytmipjhbbbpcdlaa.own Go.Proofs.Ytmipjhbbbpcdlaa.lift
set_option linter.unusedVariables false

structure Acts (W : World) (v : Value) (n : Nat) (A : Nat → ActV) : Prop where
  shape : n ≤ 140737488355328 ∧ ∃ (a : Option Addr) (cap : Nat), v = .slice a n cap ∧ (0 < n → ∃ b off, a = some ⟨b, off, none⟩ ∧ ∀ j, j < n → W.rangeAt b (off + j * 4) (A j).cells)
  each : ∀ j, j < n → (A j).Ok W
theorem bAct : Try.prog.bytesOf 31 = 48 := by kernel_rfl
instance : Inhabited ActV := ⟨⟨0, 0, undef, [], 0⟩⟩

set_option maxRecDepth 100000 in
theorem acts_open {H : Type} {enc : TypeId × Value → H} {W : World} {v : Value} {d : DataW H} {p : List MemPlace} {r : Reach} {base : Nat}
    (hval : Value.okWide Try.prog W r base 22 v) (h : DataW.Trod enc Try.prog W 0 (fun _ => true) true 22 v d p) (hz : ∀ n ∈ d.weights Try.prog 22, n ≤ reachBytes) : ∃ n A, Acts W v n A := by
  obtain ⟨a0, len, cap, rfl⟩ := okWide_slice Try.underlying22 hval
  obtain ⟨fuel, hf⟩ := h
  rcases Deep.open_slice Try.underlying22 hf with ⟨hcs, hx⟩ | ⟨a, len', cap', m, n, D, Pl, hcs, _, hl, hcap, hm, hx, hi⟩
  · simp [Value.cells] at hcs
    obtain ⟨rfl, rfl, rfl⟩ := hcs
    exact ⟨0, fun _ => default, ⟨by omega, none, 0, rfl, fun h => by omega⟩, fun j hj => by omega⟩
  · simp [Value.cells] at hcs
    obtain ⟨rfl, rfl, rfl⟩ := hcs
    simp only [if_true] at hm
    subst hm
    have each : ∀ i, i < m → ∃ A : ActV, (∀ j, j < 4 → W.cell? ((a.add (i * 4)).add j) = A.cells[j]?) ∧ A.Ok W := by
      intro i him
      obtain ⟨cs', hc, ht⟩ := hi i him
      rw [cAct.1] at hc
      obtain ⟨A, rfl, hok⟩ := act_cells ht
      exact ⟨A, (World.cells?_some hc).2.2, hok⟩
    have hb47 : len ≤ 140737488355328 := by
      obtain ⟨rfl, rfl⟩ := Prod.mk.inj hx
      have h1 := hz (((List.map D (List.range len)).length + (List.map (fun j => D (len + j)) (List.range (m - len))).length) * Try.prog.bytesOf 31) (by simp [DataW.weights, Try.underlying22])
      rw [bAct] at h1
      simp only [List.length_map, List.length_range] at h1
      unfold reachBytes at h1
      omega
    refine ⟨len, fun j => if h : j < m then (each j h).choose else default, ⟨hb47, some a, m, rfl, fun h0 => ?_⟩, fun j hj => ?_⟩
    · obtain ⟨b, off, spot⟩ := a
      obtain ⟨A0, c0, _⟩ := each 0 (by omega)
      have c00 := c0 0 (by omega)
      obtain rfl : spot = none := by
        have : W.cell? ((({ block := b, off := off, spot := spot } : Addr).add (0 * 4)).add 0) = some (.int .i64 A0.kind) := c00
        simpa [Addr.add] using World.cell?_spot this
      refine ⟨b, off, rfl, fun j hj i v hv => ?_⟩
      have hjm : j < m := by omega
      have hc := (each j hjm).choose_spec.1
      simp only [hjm, dif_pos] at hv
      have hi4 : i < 4 := by
        have := (List.getElem?_eq_some_iff.1 hv).1
        simpa [ActV.cells] using this
      have h1 := hc i hi4
      exact (congrArg W.cell? ((congrArg (fun x => Addr.add x i) (add_plain' b off (j * 4))).trans (add_plain' b (off + j * 4) i))).symm.trans (h1.trans hv)
    · have hjm : j < m := by omega
      simp only [hjm, dif_pos]
      exact (each j hjm).choose_spec.2

theorem Acts.keep {W W' : World} {v : Value} {n : Nat} {A : Nat → ActV} (h : Acts W v n A) (hb : Below W.heap.size W W') : Acts W' v n A := by
  obtain ⟨hn, a, cap, e, hc⟩ := h.shape
  refine ⟨⟨hn, a, cap, e, fun h0 => ?_⟩, fun j hj => ?_⟩
  · obtain ⟨b, off, e2, hcell⟩ := hc h0
    exact ⟨b, off, e2, fun j hj i v hv => (hb.cell (p := ⟨b, off + j * 4 + i, none⟩) (cell_lt (hcell j hj i v hv))).trans (hcell j hj i v hv)⟩
  · obtain ⟨h1, h2, h3⟩ := h.each j hj
    exact ⟨h1, h2.keep hb, h3⟩

theorem infoAct : (Try.prog.info? 31).map (·.size) = some 4 := by kernel_rfl
/-- The loop's own copy of an act. -/
theorem act_var (w : World) (kind n : Int) (v : Value) (pick : Nat) :
    let W1 := (w.alloc (.cells #[.int .i64 0, .int .i64 0, .slice none 0 0, .int .u64 0] 31)).setCells w.heap.size 0 [.int .i64 kind, .int .i64 n, v, .int .u64 (pick : Nat)]
    (w.alloc (.cells #[.int .i64 0, .int .i64 0, .slice none 0 0, .int .u64 0] 31)).there w.heap.size 0 4 ∧ W1.rangeAt w.heap.size 0 [.int .i64 kind, .int .i64 n, v, .int .u64 (pick : Nat)] ∧ Below w.heap.size w W1 := by
  have h0 : (w.alloc (.cells #[.int .i64 0, .int .i64 0, .slice none 0 0, .int .u64 0] 31)).heap[w.heap.size]? = some (.cells ([.int .i64 0, .int .i64 0, .slice none 0 0, .int .u64 0] : List Value).toArray 31 (0, 0)) := alloc_at w _
  have h1 := there_of_block (n := 4) h0 (by simp)
  refine ⟨h1, World.rangeAt_setCells_same _ _ _ _ h1, Below.setCells ((Below.refl _ _).alloc (Nat.le_refl _) _) (Nat.le_refl _) _ _⟩

end Go.Proofs.Ytmipjhbbbpcdlaa.sector
