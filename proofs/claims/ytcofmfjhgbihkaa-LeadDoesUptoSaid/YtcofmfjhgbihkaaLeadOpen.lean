/- What came in, opened: ballots, promises, leaders. -/
import Derived.Test.YtcofmfjhgbihkaaRows
import Derived.Test.YtcofmfjhgbihkaaRowOpen
import Derived.Test.YtcofmfjhgbihkaaLeadBase
namespace Go.Proofs.Ytcofmfjhgbihkaa.crush
open Go.ChangeShapes Go.WideShapes Go.ChangeAt Go.RowKit
open Go.Proofs.Ytcofmfjhgbihkaa.kit Go.Proofs.Ytcofmfjhgbihkaa.own Go.Proofs.Ytcofmfjhgbihkaa.lift
set_option linter.unusedVariables false

theorem ownKl : ownKnob Try.prog.godebug = none := by kernel_rfl
theorem laidOutL : laidOutB Try.prog = true := by kernel_rfl
theorem balCellsL : Try.prog.cellsOf 23 = 2 ∧ Try.prog.cellsOf 3 = 1 ∧ Try.prog.cellsOf 2 = 1 := ⟨by kernel_rfl, by kernel_rfl, by kernel_rfl⟩
theorem lsL2 {α : Type} : ∀ (l : List α), l.length = 2 → ∃ a b, l = [a, b]
  | [a, b], _ => ⟨a, b, rfl⟩
theorem lsL5 {α : Type} : ∀ (l : List α), l.length = 5 → ∃ a b c d e, l = [a, b, c, d, e]
  | [a, b, c, d, e], _ => ⟨a, b, c, d, e, rfl⟩
theorem lsL6 {α : Type} : ∀ (l : List α), l.length = 6 → ∃ a b c d e f, l = [a, b, c, d, e, f]
  | [a, b, c, d, e, f], _ => ⟨a, b, c, d, e, f, rfl⟩
theorem lsL7 {α : Type} : ∀ (l : List α), l.length = 7 → ∃ a b c d e f g, l = [a, b, c, d, e, f, g]
  | [a, b, c, d, e, f, g], _ => ⟨a, b, c, d, e, f, g, rfl⟩
theorem i64_litL {z : Int} (h : (Lit.int .i64 z).wf = true) : I64 z := by
  simpa [I64, Lit.wf, IntKind.min, IntKind.max, IntKind.signed, IntKind.bits] using h
section
variable {H : Type} {enc : TypeId × Value → H} {W : World} {base n : Nat} {sp : Nat → Bool} {held : Bool} {cs : List Value} {d : DataW H} {p : List MemPlace}
theorem bal_cellsL (h : DataW.trod enc Try.prog W base sp held n 23 cs = some (d, p)) : ∃ r m : Int, I64 r ∧ I64 m ∧ cs = [.int .i64 r, .int .i64 m] := by
  obtain ⟨xs, n', hn, hx, hlen, hxs, hg⟩ := DataW.trod_struct Try.underlying23 h
  obtain ⟨e2, e1, e1'⟩ := balCellsL
  rw [e2] at hlen
  have hxs' : xs.length = 2 := hxs
  obtain ⟨c0, c1, rfl⟩ := lsL2 cs hlen
  obtain ⟨y0, y1, rfl⟩ := lsL2 xs hxs'
  have q0 : DataW.trod enc Try.prog W base sp held n' 2 (List.take (Try.prog.cellsOf 2) (List.drop 0 [c0, c1])) = some y0 := hg 0 _ rfl
  have q1 : DataW.trod enc Try.prog W base sp held n' 3 (List.take (Try.prog.cellsOf 3) (List.drop 1 [c0, c1])) = some y1 := hg 1 _ rfl
  rw [e1'] at q0
  rw [e1] at q1
  have g0 : DataW.trod enc Try.prog W base sp held n' 2 [c0] = some y0 := q0
  have g1 : DataW.trod enc Try.prog W base sp held n' 3 [c1] = some y1 := q1
  clear hg hxs hxs' hlen
  obtain ⟨z0, hz0, rfl, w0⟩ := DataW.trod_int Try.underlying2 g0
  obtain ⟨z1, hz1, rfl, w1⟩ := DataW.trod_int Try.underlying3 g1
  cases hz0; cases hz1
  exact ⟨z0, z1, i64_litL w0, i64_litL w1, rfl⟩
end
section
variable {H : Type} {enc : TypeId × Value → H} {W : World} {r : Reach} {base : Nat} {v : Value} {d : DataW H} {p : List MemPlace}
set_option maxRecDepth 100000 in
/-- A ballot that came in. -/
theorem bal_openL (hval : Value.okWide Try.prog W r base 23 v) (h : DataW.Trod enc Try.prog W 0 (fun _ => true) true 23 v d p) : ∃ b : BalV, v = b.val ∧ I64 b.r ∧ I64 b.m := by
  obtain ⟨cs, rfl, _⟩ := okWide_struct Try.underlying23 hval
  obtain ⟨fuel, hf⟩ := h
  obtain ⟨r, m, hr, hm, e⟩ := bal_cellsL hf
  obtain rfl : cs = #[.int .i64 r, .int .i64 m] := by
    have : cs.toList = [.int .i64 r, .int .i64 m] := e
    cases cs; simp_all
  exact ⟨⟨r, m⟩, rfl, hr, hm⟩
end
end Go.Proofs.Ytcofmfjhgbihkaa.crush
