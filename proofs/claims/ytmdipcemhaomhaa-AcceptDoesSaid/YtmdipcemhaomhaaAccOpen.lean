/- What came in, opened: a ballot, an acceptor, a row of texts. -/
import Derived.Test.YtmdipcemhaomhaaRows
import Derived.Test.YtmdipcemhaomhaaRowOpen
import Derived.Test.YtmdipcemhaomhaaAccProm
namespace Go.Proofs.Ytmdipcemhaomhaa.crush
open Go.ChangeShapes Go.WideShapes Go.ChangeAt Go.RowKit
open Go.Proofs.Ytmdipcemhaomhaa.kit Go.Proofs.Ytmdipcemhaomhaa.own Go.Proofs.Ytmdipcemhaomhaa.lift
set_option linter.unusedVariables false

theorem ownKd : ownKnob Try.prog.godebug = none := by kernel_rfl
theorem laidOutD : laidOutB Try.prog = true := by kernel_rfl
theorem accCellsD : Try.prog.cellsOf 26 = 7 ∧ Try.prog.cellsOf 23 = 2 ∧ Try.prog.cellsOf 3 = 1 ∧ Try.prog.cellsOf 2 = 1 ∧ Try.prog.cellsOf 9 = 1 ∧ Try.prog.cellsOf 24 = 1 ∧ Try.prog.cellsOf 4 = 1 :=
  ⟨by kernel_rfl, by kernel_rfl, by kernel_rfl, by kernel_rfl, by kernel_rfl, by kernel_rfl, by kernel_rfl⟩
theorem lsD2 {α : Type} : ∀ (l : List α), l.length = 2 → ∃ a b, l = [a, b]
  | [a, b], _ => ⟨a, b, rfl⟩
theorem lsD5 {α : Type} : ∀ (l : List α), l.length = 5 → ∃ a b c d e, l = [a, b, c, d, e]
  | [a, b, c, d, e], _ => ⟨a, b, c, d, e, rfl⟩
theorem lsD7 {α : Type} : ∀ (l : List α), l.length = 7 → ∃ a b c d e f g, l = [a, b, c, d, e, f, g]
  | [a, b, c, d, e, f, g], _ => ⟨a, b, c, d, e, f, g, rfl⟩
theorem i64_litD {z : Int} (h : (Lit.int .i64 z).wf = true) : I64 z := by
  simpa [I64, Lit.wf, IntKind.min, IntKind.max, IntKind.signed, IntKind.bits] using h
section
variable {H : Type} {enc : TypeId × Value → H} {W : World} {base n : Nat} {sp : Nat → Bool} {held : Bool} {cs : List Value} {d : DataW H} {p : List MemPlace}
theorem txt_cellsD (h : DataW.trod enc Try.prog W base sp held n 9 cs = some (d, p)) : ∃ s : ByteArray, True ∧ cs = tx s := by
  obtain ⟨s, hs, -, -⟩ := DataW.trod_string Try.underlying9 h
  exact ⟨s, trivial, hs⟩
theorem bal_cellsD (h : DataW.trod enc Try.prog W base sp held n 23 cs = some (d, p)) : ∃ r m : Int, I64 r ∧ I64 m ∧ cs = [.int .i64 r, .int .i64 m] := by
  obtain ⟨xs, n', hn, hx, hlen, hxs, hg⟩ := DataW.trod_struct Try.underlying23 h
  obtain ⟨-, e2, e1, e1', -, -, -⟩ := accCellsD
  rw [e2] at hlen
  have hxs' : xs.length = 2 := hxs
  obtain ⟨c0, c1, rfl⟩ := lsD2 cs hlen
  obtain ⟨y0, y1, rfl⟩ := lsD2 xs hxs'
  have q0 : DataW.trod enc Try.prog W base sp held n' 2 (List.take (Try.prog.cellsOf 2) (List.drop 0 [c0, c1])) = some y0 := hg 0 _ rfl
  have q1 : DataW.trod enc Try.prog W base sp held n' 3 (List.take (Try.prog.cellsOf 3) (List.drop 1 [c0, c1])) = some y1 := hg 1 _ rfl
  rw [e1'] at q0
  rw [e1] at q1
  have g0 : DataW.trod enc Try.prog W base sp held n' 2 [c0] = some y0 := q0
  have g1 : DataW.trod enc Try.prog W base sp held n' 3 [c1] = some y1 := q1
  clear hg hxs hxs' hlen
  obtain ⟨z0, hz0, rfl, w0⟩ := DataW.trod_int Try.underlying2 g0
  obtain ⟨z1, hz1, rfl, w1⟩ := DataW.trod_int Try.underlying3 g1
  cases hz0; cases hz1
  exact ⟨z0, z1, i64_litD w0, i64_litD w1, rfl⟩
end
section
variable {H : Type} {enc : TypeId × Value → H} {W : World} {r : Reach} {base : Nat} {v : Value} {d : DataW H} {p : List MemPlace}
set_option maxRecDepth 100000 in
/-- A row of texts that came in. -/
theorem texts_openD (hval : Value.okWide Try.prog W r base 24 v) (h : DataW.Trod enc Try.prog W 0 (fun _ => true) true 24 v d p) : ∃ l : List ByteArray, Sl tx 1 W v l ∧ ∃ x c, v = .slice x l.length c ∧ l.length ≤ c := by
  obtain ⟨a0, len, cap, rfl⟩ := okWide_slice Try.underlying24 hval
  obtain ⟨fuel, hf⟩ := h
  obtain ⟨v4, f4, hv4, hs4, -, hcap⟩ := rows_open tx (fun _ => True) 1 24 9 (by decide) tx_len Try.underlying24 accCellsD.2.2.2.2.1 (fun c d p n' h => txt_cellsD h) hf
  have e : (Value.slice a0 len cap) = v4 := by simpa [Value.cells] using hv4
  rw [e]
  exact ⟨f4, hs4, hcap⟩
set_option maxRecDepth 100000 in
/-- A ballot that came in. -/
theorem bal_open (hval : Value.okWide Try.prog W r base 23 v) (h : DataW.Trod enc Try.prog W 0 (fun _ => true) true 23 v d p) : ∃ b : BalV, v = b.val ∧ I64 b.r ∧ I64 b.m := by
  obtain ⟨cs, rfl, _⟩ := okWide_struct Try.underlying23 hval
  obtain ⟨fuel, hf⟩ := h
  obtain ⟨r, m, hr, hm, e⟩ := bal_cellsD hf
  obtain rfl : cs = #[.int .i64 r, .int .i64 m] := by
    have : cs.toList = [.int .i64 r, .int .i64 m] := e
    cases cs; simp_all
  exact ⟨⟨r, m⟩, rfl, hr, hm⟩
set_option maxRecDepth 100000 in
/-- An acceptor that came in. -/
theorem acc_open (hval : Value.okWide Try.prog W r base 26 v) (h : DataW.Trod enc Try.prog W 0 (fun _ => true) true 26 v d p) : ∃ a : AccV, AccR W v a := by
  obtain ⟨cs, rfl, _⟩ := okWide_struct Try.underlying26 hval
  obtain ⟨fuel, hf⟩ := h
  obtain ⟨xs, n', hn, hx, hlen, hxs, hg⟩ := DataW.trod_struct Try.underlying26 hf
  obtain ⟨e7, e2, e1, e1', es, er, eb⟩ := accCellsD
  rw [e7] at hlen
  have hxs' : xs.length = 5 := hxs
  have hlen' : cs.toList.length = 7 := hlen
  obtain ⟨c0, c1, c2, c3, c4, c5, c6, hcs⟩ := lsD7 cs.toList hlen'
  obtain rfl : cs = #[c0, c1, c2, c3, c4, c5, c6] := by cases cs; simp_all
  obtain ⟨y0, y1, y2, y3, y4, rfl⟩ := lsD5 xs hxs'
  have q0 : DataW.trod enc Try.prog W 0 (fun _ => true) true n' 23 (List.take (Try.prog.cellsOf 23) (List.drop 0 [c0, c1, c2, c3, c4, c5, c6])) = some y0 := hg 0 _ rfl
  have q1 : DataW.trod enc Try.prog W 0 (fun _ => true) true n' 4 (List.take (Try.prog.cellsOf 4) (List.drop 2 [c0, c1, c2, c3, c4, c5, c6])) = some y1 := hg 1 _ rfl
  have q2 : DataW.trod enc Try.prog W 0 (fun _ => true) true n' 23 (List.take (Try.prog.cellsOf 23) (List.drop 3 [c0, c1, c2, c3, c4, c5, c6])) = some y2 := hg 2 _ rfl
  have q3 : DataW.trod enc Try.prog W 0 (fun _ => true) true n' 9 (List.take (Try.prog.cellsOf 9) (List.drop 5 [c0, c1, c2, c3, c4, c5, c6])) = some y3 := hg 3 _ rfl
  have q4 : DataW.trod enc Try.prog W 0 (fun _ => true) true n' 24 (List.take (Try.prog.cellsOf 24) (List.drop 6 [c0, c1, c2, c3, c4, c5, c6])) = some y4 := hg 4 _ rfl
  rw [e2] at q0 q2
  rw [eb] at q1
  rw [es] at q3
  rw [er] at q4
  have g0 : DataW.trod enc Try.prog W 0 (fun _ => true) true n' 23 [c0, c1] = some y0 := q0
  have g1 : DataW.trod enc Try.prog W 0 (fun _ => true) true n' 4 [c2] = some y1 := q1
  have g2 : DataW.trod enc Try.prog W 0 (fun _ => true) true n' 23 [c3, c4] = some y2 := q2
  have g3 : DataW.trod enc Try.prog W 0 (fun _ => true) true n' 9 [c5] = some y3 := q3
  have g4 : DataW.trod enc Try.prog W 0 (fun _ => true) true n' 24 [c6] = some y4 := q4
  clear hg hxs hxs' hlen hlen' q0 q1 q2 q3 q4
  obtain ⟨d0, p0⟩ := y0
  obtain ⟨r0, m0, -, -, hc0⟩ := bal_cellsD g0
  obtain ⟨q, hz1, -⟩ := DataW.trod_bool Try.underlying4 g1
  obtain ⟨d2, p2⟩ := y2
  obtain ⟨r2, m2, -, -, hc2⟩ := bal_cellsD g2
  obtain ⟨s, hs, -, -⟩ := DataW.trod_string Try.underlying9 g3
  obtain ⟨v4, f4, hv4, hs4, -, -⟩ := rows_open tx (fun _ => True) 1 24 9 (by decide) tx_len Try.underlying24 es (fun c d p n' h => txt_cellsD h) g4
  cases hc0; cases hz1; cases hc2; cases hs; cases hv4
  exact ⟨⟨r0, m0, q, r2, m2, s, f4⟩, _, rfl, hs4⟩
end
end Go.Proofs.Ytmdipcemhaomhaa.crush
