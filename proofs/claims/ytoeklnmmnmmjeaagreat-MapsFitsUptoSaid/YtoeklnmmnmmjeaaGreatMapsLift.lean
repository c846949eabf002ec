/- A change that came in, opened. -/
import Derived.Test.YtoeklnmmnmmjeaaGreatRows
import Derived.Test.YtoeklnmmnmmjeaaGreatLift
import Derived.Test.YtoeklnmmnmmjeaaGreatMapsInc
import Derived.Deep.Slices
import Derived.Deep.Fields
namespace Go.Proofs.YtoeklnmmnmmjeaaGreat.crush
open Go.ChangeShapes Go.WideShapes Go.ChangeAt Go.RowKit
open Go.Proofs.YtoeklnmmnmmjeaaGreat.kit Go.Proofs.YtoeklnmmnmmjeaaGreat.own Go.Proofs.YtoeklnmmnmmjeaaGreat.lift
set_option linter.unusedVariables false

theorem own : ownKnob Tryz.prog.godebug = none := by kernel_rfl
theorem laidOut : laidOutB Tryz.prog = true := by kernel_rfl
theorem incCells : Tryz.prog.cellsOf 31 = 8 ∧ Tryz.prog.cellsOf 29 = 4 ∧ Tryz.prog.cellsOf 3 = 1 ∧ Tryz.prog.cellsOf 2 = 1 := ⟨by kernel_rfl, by kernel_rfl, by kernel_rfl, by kernel_rfl⟩
theorem list8 {α : Type} : ∀ (l : List α), l.length = 8 → ∃ a b c d e f g h, l = [a, b, c, d, e, f, g, h]
  | [a, b, c, d, e, f, g, h], _ => ⟨a, b, c, d, e, f, g, h, rfl⟩
theorem list5 {α : Type} : ∀ (l : List α), l.length = 5 → ∃ a b c d e, l = [a, b, c, d, e]
  | [a, b, c, d, e], _ => ⟨a, b, c, d, e, rfl⟩
theorem list4' {α : Type} : ∀ (l : List α), l.length = 4 → ∃ a b c d, l = [a, b, c, d]
  | [a, b, c, d], _ => ⟨a, b, c, d, rfl⟩

set_option maxRecDepth 100000 in
theorem inc_cells {H : Type} {enc : TypeId × Value → H} {W : World} {base n : Nat} {sp : Nat → Bool} {held : Bool} {cs : List Value} {d : DataW H} {p : List MemPlace}
    (h : DataW.trod enc Tryz.prog W base sp held n 31 cs = some (d, p)) :
    ∃ c : IncV, cs = [.int .i64 c.kind, .int .i64 c.osd, .int .i64 c.client, .int .i64 c.num, .int .i64 c.pool.size, .int .i64 c.pool.min, .int .i64 c.pool.pgs, .int .i64 c.pool.dom] ∧ (Lit.int .i64 c.kind).wf = true ∧ (Lit.int .i64 c.osd).wf = true ∧ (Lit.int .i64 c.client).wf = true ∧ (Lit.int .i64 c.num).wf = true := by
  obtain ⟨xs, n', hn, hx, hlen, hxs, hg⟩ := DataW.trod_struct Tryz.underlying31 h
  obtain ⟨e8, e4, e1, e2⟩ := incCells
  rw [e8] at hlen
  have hxs' : xs.length = 5 := hxs
  obtain ⟨c0, c1, c2, c3, c4, c5, c6, c7, rfl⟩ := list8 cs hlen
  obtain ⟨y0, y1, y2, y3, y4, rfl⟩ := list5 xs hxs'
  have q0 : DataW.trod enc Tryz.prog W base sp held n' 3 (List.take (Tryz.prog.cellsOf 3) (List.drop 0 [c0, c1, c2, c3, c4, c5, c6, c7])) = some y0 := hg 0 _ rfl
  have q1 : DataW.trod enc Tryz.prog W base sp held n' 3 (List.take (Tryz.prog.cellsOf 3) (List.drop 1 [c0, c1, c2, c3, c4, c5, c6, c7])) = some y1 := hg 1 _ rfl
  have q2 : DataW.trod enc Tryz.prog W base sp held n' 3 (List.take (Tryz.prog.cellsOf 3) (List.drop 2 [c0, c1, c2, c3, c4, c5, c6, c7])) = some y2 := hg 2 _ rfl
  have q3 : DataW.trod enc Tryz.prog W base sp held n' 2 (List.take (Tryz.prog.cellsOf 2) (List.drop 3 [c0, c1, c2, c3, c4, c5, c6, c7])) = some y3 := hg 3 _ rfl
  have q4 : DataW.trod enc Tryz.prog W base sp held n' 29 (List.take (Tryz.prog.cellsOf 29) (List.drop 4 [c0, c1, c2, c3, c4, c5, c6, c7])) = some y4 := hg 4 _ rfl
  rw [e1] at q0 q1 q2
  rw [e2] at q3
  rw [e4] at q4
  have g0 : DataW.trod enc Tryz.prog W base sp held n' 3 [c0] = some y0 := q0
  have g1 : DataW.trod enc Tryz.prog W base sp held n' 3 [c1] = some y1 := q1
  have g2 : DataW.trod enc Tryz.prog W base sp held n' 3 [c2] = some y2 := q2
  have g3 : DataW.trod enc Tryz.prog W base sp held n' 2 [c3] = some y3 := q3
  have g4 : DataW.trod enc Tryz.prog W base sp held n' 29 [c4, c5, c6, c7] = some y4 := q4
  clear hg hxs hxs' hlen q0 q1 q2 q3 q4
  obtain ⟨xs, m, hm, hx2, hlen, hxs, hg⟩ := DataW.trod_struct Tryz.underlying29 g4
  have hxs' : xs.length = 4 := hxs
  obtain ⟨z4, z5, z6, z7, rfl⟩ := list4' xs hxs'
  have q4 : DataW.trod enc Tryz.prog W base sp held m 3 (List.take (Tryz.prog.cellsOf 3) (List.drop 0 [c4, c5, c6, c7])) = some z4 := hg 0 _ rfl
  have q5 : DataW.trod enc Tryz.prog W base sp held m 3 (List.take (Tryz.prog.cellsOf 3) (List.drop 1 [c4, c5, c6, c7])) = some z5 := hg 1 _ rfl
  have q6 : DataW.trod enc Tryz.prog W base sp held m 3 (List.take (Tryz.prog.cellsOf 3) (List.drop 2 [c4, c5, c6, c7])) = some z6 := hg 2 _ rfl
  have q7 : DataW.trod enc Tryz.prog W base sp held m 3 (List.take (Tryz.prog.cellsOf 3) (List.drop 3 [c4, c5, c6, c7])) = some z7 := hg 3 _ rfl
  rw [e1] at q4 q5 q6 q7
  have k4 : DataW.trod enc Tryz.prog W base sp held m 3 [c4] = some z4 := q4
  have k5 : DataW.trod enc Tryz.prog W base sp held m 3 [c5] = some z5 := q5
  have k6 : DataW.trod enc Tryz.prog W base sp held m 3 [c6] = some z6 := q6
  have k7 : DataW.trod enc Tryz.prog W base sp held m 3 [c7] = some z7 := q7
  clear hg hxs hxs' hlen q4 q5 q6 q7
  obtain ⟨a0, ha0, rfl, hw0⟩ := DataW.trod_int Tryz.underlying3 g0
  obtain ⟨a1, ha1, rfl, hw1⟩ := DataW.trod_int Tryz.underlying3 g1
  obtain ⟨a2, ha2, rfl, hw2⟩ := DataW.trod_int Tryz.underlying3 g2
  obtain ⟨a3, ha3, rfl, hw3⟩ := DataW.trod_int Tryz.underlying2 g3
  obtain ⟨a4, ha4, rfl, hw4⟩ := DataW.trod_int Tryz.underlying3 k4
  obtain ⟨a5, ha5, rfl, hw5⟩ := DataW.trod_int Tryz.underlying3 k5
  obtain ⟨a6, ha6, rfl, hw6⟩ := DataW.trod_int Tryz.underlying3 k6
  obtain ⟨a7, ha7, rfl, hw7⟩ := DataW.trod_int Tryz.underlying3 k7
  cases ha0; cases ha1; cases ha2; cases ha3; cases ha4; cases ha5; cases ha6; cases ha7
  exact ⟨⟨a0, a1, a2, a3, ⟨a4, a5, a6, a7⟩⟩, rfl, hw0, hw1, hw2, hw3⟩

set_option maxRecDepth 100000 in
theorem inc_open {H : Type} {enc : TypeId × Value → H} {W : World} {r : Reach} {base : Nat} {v : Value} {d : DataW H} {p : List MemPlace}
    (hval : Value.okWide Tryz.prog W r base 31 v) (h : DataW.Trod enc Tryz.prog W 0 (fun _ => true) true 31 v d p) :
    ∃ c : IncV, v = c.val ∧ (Lit.int .i64 c.kind).wf = true ∧ (Lit.int .i64 c.osd).wf = true ∧ (Lit.int .i64 c.client).wf = true ∧ (Lit.int .i64 c.num).wf = true := by
  obtain ⟨cs, rfl, hs⟩ := okWide_struct Tryz.underlying31 hval
  obtain ⟨fuel, hf⟩ := h
  obtain ⟨c, hc, h0⟩ := inc_cells hf
  refine ⟨c, ?_, h0⟩
  unfold IncV.val
  simp only [Value.cells] at hc
  congr 1
  exact Array.ext' hc
end Go.Proofs.YtoeklnmmnmmjeaaGreat.crush
