/- What came in, opened: promises, leaders, under the second form's bound. -/
import Derived.Test.YtcofmfjhgbihkaaRows
import Derived.Test.YtcofmfjhgbihkaaRowOpen
import Derived.Test.YtcofmfjhgbihkaaLeadOpen
import Derived.Test.YtcofmfjhgbihkaaLeadEq
import Derived.Test.YtcofmfjhgbihkaaUpto
namespace Go.Proofs.Ytcofmfjhgbihkaa.crush
open Go.ChangeShapes Go.WideShapes Go.ChangeAt Go.RowKit
open Go.Proofs.Ytcofmfjhgbihkaa.kit Go.Proofs.Ytcofmfjhgbihkaa.own Go.Proofs.Ytcofmfjhgbihkaa.lift
set_option linter.unusedVariables false
set_option linter.unusedSimpArgs false

theorem leadCellsL : Try.prog.cellsOf 27 = 7 ∧ Try.prog.cellsOf 53 = 6 ∧ Try.prog.cellsOf 23 = 2 ∧ Try.prog.cellsOf 3 = 1 ∧ Try.prog.cellsOf 2 = 1 ∧ Try.prog.cellsOf 4 = 1 ∧ Try.prog.cellsOf 9 = 1 ∧ Try.prog.cellsOf 24 = 1 ∧ Try.prog.cellsOf 25 = 1 :=
  ⟨by kernel_rfl, by kernel_rfl, by kernel_rfl, by kernel_rfl, by kernel_rfl, by kernel_rfl, by kernel_rfl, by kernel_rfl, by kernel_rfl⟩
theorem slice_bulk {H : Type} {enc : TypeId × Value → H} {W : World} {n t te : Nat} {a : Option Addr} {m c : Nat} {x : DataW H × List MemPlace} (ht : Try.prog.underlying t = some (.slice te))
    (h : DataW.trod enc Try.prog W 0 (fun _ => true) true n t [.slice a m c] = some x) : m ≤ Rows.uptoBulk x.1 := by
  rcases Deep.open_slice ht h with ⟨hcs, hx⟩ | ⟨a', len, cap, m', n2, D, Pl, hcs, _, hl, hcap, hm, hx, hi⟩
  · cases hcs; exact Nat.zero_le _
  · cases hcs
    have hx1 := congrArg Prod.fst hx
    simp only at hx1
    rw [hx1, Rows.uptoBulk]
    have := bulk_all (List.map D (List.range m))
    rw [List.length_map, List.length_range] at this
    omega
theorem int_cellsL {H : Type} {enc : TypeId × Value → H} {W : World} {base n : Nat} {sp : Nat → Bool} {held : Bool} {cs : List Value} {d : DataW H} {p : List MemPlace} (h : DataW.trod enc Try.prog W base sp held n 3 cs = some (d, p)) : ∃ z : Int, True ∧ cs = ic z := by
  obtain ⟨z, hz, -, -⟩ := DataW.trod_int Try.underlying3 h
  exact ⟨z, trivial, hz⟩
set_option maxRecDepth 100000 in
theorem prom_cells {H : Type} {enc : TypeId × Value → H} {W : World} {base n : Nat} {sp : Nat → Bool} {held : Bool} {cs : List Value} {d : DataW H} {p : List MemPlace} (h : DataW.trod enc Try.prog W base sp held n 53 cs = some (d, p)) : ∃ f : PromV, True ∧ cs = prc f := by
  obtain ⟨xs, n', hn, hx, hlen, hxs, hg⟩ := DataW.trod_struct Try.underlying53 h
  obtain ⟨-, e6, e2, e1, e1', eb, es, -, -⟩ := leadCellsL
  rw [e6] at hlen
  have hxs' : xs.length = 5 := hxs
  obtain ⟨c0, c1, c2, c3, c4, c5, rfl⟩ := lsL6 cs hlen
  obtain ⟨y0, y1, y2, y3, y4, rfl⟩ := lsL5 xs hxs'
  have q0 : DataW.trod enc Try.prog W base sp held n' 3 (List.take (Try.prog.cellsOf 3) (List.drop 0 [c0, c1, c2, c3, c4, c5])) = some y0 := hg 0 _ rfl
  have q1 : DataW.trod enc Try.prog W base sp held n' 2 (List.take (Try.prog.cellsOf 2) (List.drop 1 [c0, c1, c2, c3, c4, c5])) = some y1 := hg 1 _ rfl
  have q2 : DataW.trod enc Try.prog W base sp held n' 4 (List.take (Try.prog.cellsOf 4) (List.drop 2 [c0, c1, c2, c3, c4, c5])) = some y2 := hg 2 _ rfl
  have q3 : DataW.trod enc Try.prog W base sp held n' 23 (List.take (Try.prog.cellsOf 23) (List.drop 3 [c0, c1, c2, c3, c4, c5])) = some y3 := hg 3 _ rfl
  have q4 : DataW.trod enc Try.prog W base sp held n' 9 (List.take (Try.prog.cellsOf 9) (List.drop 5 [c0, c1, c2, c3, c4, c5])) = some y4 := hg 4 _ rfl
  rw [e1] at q0; rw [e1'] at q1; rw [eb] at q2; rw [e2] at q3; rw [es] at q4
  have g0 : DataW.trod enc Try.prog W base sp held n' 3 [c0] = some y0 := q0
  have g1 : DataW.trod enc Try.prog W base sp held n' 2 [c1] = some y1 := q1
  have g2 : DataW.trod enc Try.prog W base sp held n' 4 [c2] = some y2 := q2
  have g3 : DataW.trod enc Try.prog W base sp held n' 23 [c3, c4] = some y3 := q3
  have g4 : DataW.trod enc Try.prog W base sp held n' 9 [c5] = some y4 := q4
  clear hg hxs hxs' hlen q0 q1 q2 q3 q4
  obtain ⟨z0, hz0, -, -⟩ := DataW.trod_int Try.underlying3 g0
  obtain ⟨z1, hz1, -, -⟩ := DataW.trod_int Try.underlying2 g1
  obtain ⟨z2, hz2, -⟩ := DataW.trod_bool Try.underlying4 g2
  obtain ⟨d3, p3⟩ := y3
  obtain ⟨r, m, -, -, hc3⟩ := bal_cellsL g3
  obtain ⟨s, hs, -, -⟩ := DataW.trod_string Try.underlying9 g4
  cases hz0; cases hz1; cases hz2; cases hc3; cases hs
  exact ⟨⟨z0, z1, z2, r, m, s⟩, trivial, rfl⟩
section
variable {H : Type} {enc : TypeId × Value → H} {W : World} {r : Reach} {base : Nat} {v : Value} {d : DataW H} {p : List MemPlace}
set_option maxRecDepth 100000 in
/-- A promise that came in. -/
theorem prom_open (hval : Value.okWide Try.prog W r base 53 v) (h : DataW.Trod enc Try.prog W 0 (fun _ => true) true 53 v d p) : ∃ f : PromV, v = .agg (prc f).toArray := by
  obtain ⟨cs, rfl, _⟩ := okWide_struct Try.underlying53 hval
  obtain ⟨fuel, hf⟩ := h
  obtain ⟨f, -, e⟩ := prom_cells hf
  have : cs.toList = prc f := e
  exact ⟨f, by rw [← this]⟩
set_option maxRecDepth 100000 in
/-- A leader that came in. -/
theorem lead_open (hval : Value.okWide Try.prog W r base 27 v) (h : DataW.Trod enc Try.prog W 0 (fun _ => true) true 27 v d p) (hb : Rows.uptoBulk d ≤ 1048576) : ∃ l : LeadV, LdR W v l ∧ (∃ sa sc ta tc, v = l.agg (.slice sa l.ps.length sc) (.slice ta l.ak.length tc) ∧ l.ps.length ≤ sc ∧ l.ak.length ≤ tc) ∧ l.Small := by
  obtain ⟨cs, rfl, _⟩ := okWide_struct Try.underlying27 hval
  obtain ⟨fuel, hf⟩ := h
  obtain ⟨xs, n', hn, hx, hlen, hxs, hg⟩ := DataW.trod_struct Try.underlying27 hf
  obtain ⟨e7, e6, e2, e1, e1', eb, es, ep, ei⟩ := leadCellsL
  rw [e7] at hlen
  have hxs' : xs.length = 6 := hxs
  have hlen' : cs.toList.length = 7 := hlen
  obtain ⟨c0, c1, c2, c3, c4, c5, c6, hcs⟩ := lsL7 cs.toList hlen'
  obtain rfl : cs = #[c0, c1, c2, c3, c4, c5, c6] := by cases cs; simp_all
  obtain ⟨y0, y1, y2, y3, y4, y5, rfl⟩ := lsL6 xs hxs'
  have q0 : DataW.trod enc Try.prog W 0 (fun _ => true) true n' 3 (List.take (Try.prog.cellsOf 3) (List.drop 0 [c0, c1, c2, c3, c4, c5, c6])) = some y0 := hg 0 _ rfl
  have q1 : DataW.trod enc Try.prog W 0 (fun _ => true) true n' 23 (List.take (Try.prog.cellsOf 23) (List.drop 1 [c0, c1, c2, c3, c4, c5, c6])) = some y1 := hg 1 _ rfl
  have q2 : DataW.trod enc Try.prog W 0 (fun _ => true) true n' 24 (List.take (Try.prog.cellsOf 24) (List.drop 3 [c0, c1, c2, c3, c4, c5, c6])) = some y2 := hg 2 _ rfl
  have q3 : DataW.trod enc Try.prog W 0 (fun _ => true) true n' 4 (List.take (Try.prog.cellsOf 4) (List.drop 4 [c0, c1, c2, c3, c4, c5, c6])) = some y3 := hg 3 _ rfl
  have q4 : DataW.trod enc Try.prog W 0 (fun _ => true) true n' 9 (List.take (Try.prog.cellsOf 9) (List.drop 5 [c0, c1, c2, c3, c4, c5, c6])) = some y4 := hg 4 _ rfl
  have q5 : DataW.trod enc Try.prog W 0 (fun _ => true) true n' 25 (List.take (Try.prog.cellsOf 25) (List.drop 6 [c0, c1, c2, c3, c4, c5, c6])) = some y5 := hg 5 _ rfl
  rw [e1] at q0; rw [e2] at q1; rw [ep] at q2; rw [eb] at q3; rw [es] at q4; rw [ei] at q5
  have g0 : DataW.trod enc Try.prog W 0 (fun _ => true) true n' 3 [c0] = some y0 := q0
  have g1 : DataW.trod enc Try.prog W 0 (fun _ => true) true n' 23 [c1, c2] = some y1 := q1
  have g2 : DataW.trod enc Try.prog W 0 (fun _ => true) true n' 24 [c3] = some y2 := q2
  have g3 : DataW.trod enc Try.prog W 0 (fun _ => true) true n' 4 [c4] = some y3 := q3
  have g4 : DataW.trod enc Try.prog W 0 (fun _ => true) true n' 9 [c5] = some y4 := q4
  have g5 : DataW.trod enc Try.prog W 0 (fun _ => true) true n' 25 [c6] = some y5 := q5
  obtain ⟨rfl, -⟩ : d = _ ∧ p = _ := Prod.mk.inj hx
  clear hg hxs hxs' hlen hlen' q0 q1 q2 q3 q4 q5 hx
  simp only [List.map_cons, List.map_nil, Rows.uptoBulk, Rows.uptoBulkAll] at hb
  obtain ⟨z0, hz0, -, -⟩ := DataW.trod_int Try.underlying3 g0
  obtain ⟨d1, p1⟩ := y1
  obtain ⟨br, bm, -, -, hc1⟩ := bal_cellsL g1
  obtain ⟨v2, f2, hv2, hs2, -, xa, xc, hx2, hr2⟩ := rows_open prc (fun _ => True) 6 24 53 (by decide) prc_len Try.underlying24 e6 (fun c d p n' h => prom_cells h) g2
  obtain ⟨z3, hz3, -⟩ := DataW.trod_bool Try.underlying4 g3
  obtain ⟨s, hs, -, -⟩ := DataW.trod_string Try.underlying9 g4
  obtain ⟨v5, f5, hv5, hs5, -, ya, yc, hx5, hr5⟩ := rows_open ic (fun _ => True) 1 25 3 (by decide) ic_len Try.underlying25 e1 (fun c d p n' h => int_cellsL h) g5
  cases hz0; cases hc1; cases hv2; cases hz3; cases hs; cases hv5
  subst hx2; subst hx5
  have b2 := slice_bulk Try.underlying24 g2
  have b5 := slice_bulk Try.underlying25 g5
  exact ⟨⟨z0, br, bm, f2, z3, s, f5⟩, ⟨_, _, rfl, hs2, hs5⟩, ⟨xa, xc, ya, yc, rfl, hr2, hr5⟩, by show f2.length ≤ 1100000; omega, by show f5.length ≤ 1100000; omega⟩
end
end Go.Proofs.Ytcofmfjhgbihkaa.crush
