/- What came in, opened: rows of texts, calls. -/
import Derived.Test.YtoeklnmmnmmjeaaRows
import Derived.Test.YtoeklnmmnmmjeaaRowOpen
import Derived.Test.YtoeklnmmnmmjeaaAccNevM
namespace Go.Proofs.Ytoeklnmmnmmjeaa.crush
open Go.ChangeShapes Go.WideShapes Go.ChangeAt Go.RowKit
open Go.Proofs.Ytoeklnmmnmmjeaa.kit Go.Proofs.Ytoeklnmmnmmjeaa.own Go.Proofs.Ytoeklnmmnmmjeaa.lift
set_option linter.unusedVariables false

theorem ownKn : ownKnob Try.prog.godebug = none := by kernel_rfl
theorem laidOutP : laidOutB Try.prog = true := by kernel_rfl
theorem accCells : Try.prog.cellsOf 45 = 6 ∧ Try.prog.cellsOf 23 = 2 ∧ Try.prog.cellsOf 3 = 1 ∧ Try.prog.cellsOf 2 = 1 ∧ Try.prog.cellsOf 9 = 1 ∧ Try.prog.cellsOf 24 = 1 :=
  ⟨by kernel_rfl, by kernel_rfl, by kernel_rfl, by kernel_rfl, by kernel_rfl, by kernel_rfl⟩
theorem ls2 {α : Type} : ∀ (l : List α), l.length = 2 → ∃ a b, l = [a, b]
  | [a, b], _ => ⟨a, b, rfl⟩
theorem ls5 {α : Type} : ∀ (l : List α), l.length = 5 → ∃ a b c d e, l = [a, b, c, d, e]
  | [a, b, c, d, e], _ => ⟨a, b, c, d, e, rfl⟩
theorem ls6 {α : Type} : ∀ (l : List α), l.length = 6 → ∃ a b c d e f, l = [a, b, c, d, e, f]
  | [a, b, c, d, e, f], _ => ⟨a, b, c, d, e, f, rfl⟩
theorem i64_lit {z : Int} (h : (Lit.int .i64 z).wf = true) : I64 z := by
  simpa [I64, Lit.wf, IntKind.min, IntKind.max, IntKind.signed, IntKind.bits] using h
section
variable {H : Type} {enc : TypeId × Value → H} {W : World} {base n : Nat} {sp : Nat → Bool} {held : Bool} {cs : List Value} {d : DataW H} {p : List MemPlace}
theorem txt_cells (h : DataW.trod enc Try.prog W base sp held n 9 cs = some (d, p)) : ∃ s : ByteArray, True ∧ cs = tx s := by
  obtain ⟨s, hs, -, -⟩ := DataW.trod_string Try.underlying9 h
  exact ⟨s, trivial, hs⟩
theorem bal_cells (h : DataW.trod enc Try.prog W base sp held n 23 cs = some (d, p)) : ∃ r m : Int, I64 r ∧ I64 m ∧ cs = [.int .i64 r, .int .i64 m] := by
  obtain ⟨xs, n', hn, hx, hlen, hxs, hg⟩ := DataW.trod_struct Try.underlying23 h
  obtain ⟨-, e2, e1, e1', -, -⟩ := accCells
  rw [e2] at hlen
  have hxs' : xs.length = 2 := hxs
  obtain ⟨c0, c1, rfl⟩ := ls2 cs hlen
  obtain ⟨y0, y1, rfl⟩ := ls2 xs hxs'
  have q0 : DataW.trod enc Try.prog W base sp held n' 2 (List.take (Try.prog.cellsOf 2) (List.drop 0 [c0, c1])) = some y0 := hg 0 _ rfl
  have q1 : DataW.trod enc Try.prog W base sp held n' 3 (List.take (Try.prog.cellsOf 3) (List.drop 1 [c0, c1])) = some y1 := hg 1 _ rfl
  rw [e1'] at q0
  rw [e1] at q1
  have g0 : DataW.trod enc Try.prog W base sp held n' 2 [c0] = some y0 := q0
  have g1 : DataW.trod enc Try.prog W base sp held n' 3 [c1] = some y1 := q1
  clear hg hxs hxs' hlen
  obtain ⟨z0, hz0, rfl, w0⟩ := DataW.trod_int Try.underlying2 g0
  obtain ⟨z1, hz1, rfl, w1⟩ := DataW.trod_int Try.underlying3 g1
  cases hz0; cases hz1
  exact ⟨z0, z1, i64_lit w0, i64_lit w1, rfl⟩
end
theorem act_cells {H : Type} {enc : TypeId × Value → H} {W : World} {n : Nat} {cs : List Value} {d : DataW H} {p : List MemPlace} (h : DataW.trod enc Try.prog W 0 (fun _ => true) true n 45 cs = some (d, p)) : ∃ f : ActV, f.Ok W ∧ cs = ac f := by
  obtain ⟨xs, n', hn, hx, hlen, hxs, hg⟩ := DataW.trod_struct Try.underlying45 h
  obtain ⟨e6, e2, e1, e1', es, er⟩ := accCells
  rw [e6] at hlen
  have hxs' : xs.length = 5 := hxs
  obtain ⟨c0, c1, c2, c3, c4, c5, rfl⟩ := ls6 cs hlen
  obtain ⟨y0, y1, y2, y3, y4, rfl⟩ := ls5 xs hxs'
  have q0 : DataW.trod enc Try.prog W 0 (fun _ => true) true n' 3 (List.take (Try.prog.cellsOf 3) (List.drop 0 [c0, c1, c2, c3, c4, c5])) = some y0 := hg 0 _ rfl
  have q1 : DataW.trod enc Try.prog W 0 (fun _ => true) true n' 23 (List.take (Try.prog.cellsOf 23) (List.drop 1 [c0, c1, c2, c3, c4, c5])) = some y1 := hg 1 _ rfl
  have q2 : DataW.trod enc Try.prog W 0 (fun _ => true) true n' 2 (List.take (Try.prog.cellsOf 2) (List.drop 3 [c0, c1, c2, c3, c4, c5])) = some y2 := hg 2 _ rfl
  have q3 : DataW.trod enc Try.prog W 0 (fun _ => true) true n' 9 (List.take (Try.prog.cellsOf 9) (List.drop 4 [c0, c1, c2, c3, c4, c5])) = some y3 := hg 3 _ rfl
  have q4 : DataW.trod enc Try.prog W 0 (fun _ => true) true n' 24 (List.take (Try.prog.cellsOf 24) (List.drop 5 [c0, c1, c2, c3, c4, c5])) = some y4 := hg 4 _ rfl
  rw [e1] at q0
  rw [e2] at q1
  rw [e1'] at q2
  rw [es] at q3
  rw [er] at q4
  have g0 : DataW.trod enc Try.prog W 0 (fun _ => true) true n' 3 [c0] = some y0 := q0
  have g1 : DataW.trod enc Try.prog W 0 (fun _ => true) true n' 23 [c1, c2] = some y1 := q1
  have g2 : DataW.trod enc Try.prog W 0 (fun _ => true) true n' 2 [c3] = some y2 := q2
  have g3 : DataW.trod enc Try.prog W 0 (fun _ => true) true n' 9 [c4] = some y3 := q3
  have g4 : DataW.trod enc Try.prog W 0 (fun _ => true) true n' 24 [c5] = some y4 := q4
  clear hg hxs hxs' hlen
  obtain ⟨z0, hz0, rfl, w0⟩ := DataW.trod_int Try.underlying3 g0
  obtain ⟨d1, p1⟩ := y1
  obtain ⟨r, m, hr, hm, hc1⟩ := bal_cells g1
  obtain ⟨z2, hz2, rfl, w2⟩ := DataW.trod_int Try.underlying2 g2
  obtain ⟨s, hs, rfl, -⟩ := DataW.trod_string Try.underlying9 g3
  obtain ⟨v4, f4, hv4, hs4, -, hcap⟩ := rows_open tx (fun _ => True) 1 24 9 (by decide) tx_len Try.underlying24 es (fun c d p n' h => txt_cells h) g4
  cases hz0; cases hc1; cases hz2; cases hs; cases hv4
  exact ⟨⟨z0, r, m, z2, s, c5, f4⟩, ⟨i64_lit w2, hs4, hcap⟩, rfl⟩
/-- A row of calls that came in. -/
theorem acts_open {H : Type} {enc : TypeId × Value → H} {W : World} {r : Reach} {base : Nat} {v : Value} {d : DataW H} {p : List MemPlace}
    (hval : Value.okWide Try.prog W r base 43 v) (h : DataW.Trod enc Try.prog W 0 (fun _ => true) true 43 v d p) : ∃ l : List ActV, Sl ac 6 W v l ∧ ∀ x ∈ l, x.Ok W := by
  obtain ⟨a0, len, cap, rfl⟩ := okWide_slice Try.underlying43 hval
  obtain ⟨fuel, hf⟩ := h
  obtain ⟨v4, f4, hv4, hs4, hok, -⟩ := rows_open ac (ActV.Ok W) 6 43 45 (by decide) ac_len Try.underlying43 accCells.1 (fun c d p n' h => act_cells h) hf
  have e : (Value.slice a0 len cap) = v4 := by simpa [Value.cells] using hv4
  rw [e]
  exact ⟨f4, hs4, hok⟩
end Go.Proofs.Ytoeklnmmnmmjeaa.crush
