/- A map that came in, opened. -/
import Derived.Test.YtoeklnmmnmmjeaaGreatRows
import Derived.Test.YtoeklnmmnmmjeaaGreatMapsLift
import Derived.Test.YtoeklnmmnmmjeaaGreatRowOpen
import Derived.Test.YtoeklnmmnmmjeaaGreatMapsFit
namespace Go.Proofs.YtoeklnmmnmmjeaaGreat.crush
open Go.ChangeShapes Go.WideShapes Go.ChangeAt Go.RowKit
open Go.Proofs.YtoeklnmmnmmjeaaGreat.kit Go.Proofs.YtoeklnmmnmmjeaaGreat.own Go.Proofs.YtoeklnmmnmmjeaaGreat.lift
set_option linter.unusedVariables false

theorem mapCells : Tryz.prog.cellsOf 74 = 4 ∧ Tryz.prog.cellsOf 29 = 4 ∧ Tryz.prog.cellsOf 93 = 2 ∧ Tryz.prog.cellsOf 3 = 1 ∧ Tryz.prog.cellsOf 2 = 1 ∧ Tryz.prog.cellsOf 4 = 1 ∧ Tryz.prog.cellsOf 27 = 5 :=
  ⟨by kernel_rfl, by kernel_rfl, by kernel_rfl, by kernel_rfl, by kernel_rfl, by kernel_rfl, by kernel_rfl⟩
theorem mapRows : Tryz.prog.cellsOf 22 = 1 ∧ Tryz.prog.cellsOf 23 = 1 ∧ Tryz.prog.cellsOf 24 = 1 ∧ Tryz.prog.cellsOf 25 = 1 := ⟨by kernel_rfl, by kernel_rfl, by kernel_rfl, by kernel_rfl⟩
theorem list2' {α : Type} : ∀ (l : List α), l.length = 2 → ∃ a b, l = [a, b]
  | [a, b], _ => ⟨a, b, rfl⟩
section
variable {H : Type} {enc : TypeId × Value → H} {W : World} {base n : Nat} {sp : Nat → Bool} {held : Bool} {cs : List Value} {d : DataW H} {p : List MemPlace}
theorem int_cells (h : DataW.trod enc Tryz.prog W base sp held n 3 cs = some (d, p)) : ∃ z : Int, True ∧ cs = ic z := by
  obtain ⟨z, hz, -, -⟩ := DataW.trod_int Tryz.underlying3 h
  exact ⟨z, trivial, hz⟩
theorem osd_cells (h : DataW.trod enc Tryz.prog W base sp held n 74 cs = some (d, p)) : ∃ f : OsdV, True ∧ cs = oc f := by
  obtain ⟨xs, n', hn, hx, hlen, hxs, hg⟩ := DataW.trod_struct Tryz.underlying74 h
  obtain ⟨e4, -, -, -, e1, eb, -⟩ := mapCells
  rw [e4] at hlen
  have hxs' : xs.length = 4 := hxs
  obtain ⟨c0, c1, c2, c3, rfl⟩ := list4' cs hlen
  obtain ⟨y0, y1, y2, y3, rfl⟩ := list4' xs hxs'
  have q0 : DataW.trod enc Tryz.prog W base sp held n' 2 (List.take (Tryz.prog.cellsOf 2) (List.drop 0 [c0, c1, c2, c3])) = some y0 := hg 0 _ rfl
  have q1 : DataW.trod enc Tryz.prog W base sp held n' 4 (List.take (Tryz.prog.cellsOf 4) (List.drop 1 [c0, c1, c2, c3])) = some y1 := hg 1 _ rfl
  have q2 : DataW.trod enc Tryz.prog W base sp held n' 2 (List.take (Tryz.prog.cellsOf 2) (List.drop 2 [c0, c1, c2, c3])) = some y2 := hg 2 _ rfl
  have q3 : DataW.trod enc Tryz.prog W base sp held n' 2 (List.take (Tryz.prog.cellsOf 2) (List.drop 3 [c0, c1, c2, c3])) = some y3 := hg 3 _ rfl
  rw [e1] at q0 q2 q3
  rw [eb] at q1
  have g0 : DataW.trod enc Tryz.prog W base sp held n' 2 [c0] = some y0 := q0
  have g1 : DataW.trod enc Tryz.prog W base sp held n' 4 [c1] = some y1 := q1
  have g2 : DataW.trod enc Tryz.prog W base sp held n' 2 [c2] = some y2 := q2
  have g3 : DataW.trod enc Tryz.prog W base sp held n' 2 [c3] = some y3 := q3
  clear hg hxs hxs' hlen
  obtain ⟨z0, hz0, rfl, -⟩ := DataW.trod_int Tryz.underlying2 g0
  obtain ⟨z1, hz1, rfl⟩ := DataW.trod_bool Tryz.underlying4 g1
  obtain ⟨z2, hz2, rfl, -⟩ := DataW.trod_int Tryz.underlying2 g2
  obtain ⟨z3, hz3, rfl, -⟩ := DataW.trod_int Tryz.underlying2 g3
  cases hz0; cases hz1; cases hz2; cases hz3
  exact ⟨⟨z0, z1, z2, z3⟩, trivial, rfl⟩
theorem pool_cells (h : DataW.trod enc Tryz.prog W base sp held n 29 cs = some (d, p)) : ∃ f : PoolV, True ∧ cs = pc f := by
  obtain ⟨xs, n', hn, hx, hlen, hxs, hg⟩ := DataW.trod_struct Tryz.underlying29 h
  obtain ⟨-, e4, -, e1, -, -, -⟩ := mapCells
  rw [e4] at hlen
  have hxs' : xs.length = 4 := hxs
  obtain ⟨c0, c1, c2, c3, rfl⟩ := list4' cs hlen
  obtain ⟨y0, y1, y2, y3, rfl⟩ := list4' xs hxs'
  have q0 : DataW.trod enc Tryz.prog W base sp held n' 3 (List.take (Tryz.prog.cellsOf 3) (List.drop 0 [c0, c1, c2, c3])) = some y0 := hg 0 _ rfl
  have q1 : DataW.trod enc Tryz.prog W base sp held n' 3 (List.take (Tryz.prog.cellsOf 3) (List.drop 1 [c0, c1, c2, c3])) = some y1 := hg 1 _ rfl
  have q2 : DataW.trod enc Tryz.prog W base sp held n' 3 (List.take (Tryz.prog.cellsOf 3) (List.drop 2 [c0, c1, c2, c3])) = some y2 := hg 2 _ rfl
  have q3 : DataW.trod enc Tryz.prog W base sp held n' 3 (List.take (Tryz.prog.cellsOf 3) (List.drop 3 [c0, c1, c2, c3])) = some y3 := hg 3 _ rfl
  rw [e1] at q0 q1 q2 q3
  have g0 : DataW.trod enc Tryz.prog W base sp held n' 3 [c0] = some y0 := q0
  have g1 : DataW.trod enc Tryz.prog W base sp held n' 3 [c1] = some y1 := q1
  have g2 : DataW.trod enc Tryz.prog W base sp held n' 3 [c2] = some y2 := q2
  have g3 : DataW.trod enc Tryz.prog W base sp held n' 3 [c3] = some y3 := q3
  clear hg hxs hxs' hlen
  obtain ⟨z0, hz0, rfl, -⟩ := DataW.trod_int Tryz.underlying3 g0
  obtain ⟨z1, hz1, rfl, -⟩ := DataW.trod_int Tryz.underlying3 g1
  obtain ⟨z2, hz2, rfl, -⟩ := DataW.trod_int Tryz.underlying3 g2
  obtain ⟨z3, hz3, rfl, -⟩ := DataW.trod_int Tryz.underlying3 g3
  cases hz0; cases hz1; cases hz2; cases hz3
  exact ⟨⟨z0, z1, z2, z3⟩, trivial, rfl⟩
theorem ban_cells (h : DataW.trod enc Tryz.prog W base sp held n 93 cs = some (d, p)) : ∃ f : BanV, True ∧ cs = bc f := by
  obtain ⟨xs, n', hn, hx, hlen, hxs, hg⟩ := DataW.trod_struct Tryz.underlying93 h
  obtain ⟨-, -, e2, e1, e1', -, -⟩ := mapCells
  rw [e2] at hlen
  have hxs' : xs.length = 2 := hxs
  obtain ⟨c0, c1, rfl⟩ := list2' cs hlen
  obtain ⟨y0, y1, rfl⟩ := list2' xs hxs'
  have q0 : DataW.trod enc Tryz.prog W base sp held n' 3 (List.take (Tryz.prog.cellsOf 3) (List.drop 0 [c0, c1])) = some y0 := hg 0 _ rfl
  have q1 : DataW.trod enc Tryz.prog W base sp held n' 2 (List.take (Tryz.prog.cellsOf 2) (List.drop 1 [c0, c1])) = some y1 := hg 1 _ rfl
  rw [e1] at q0
  rw [e1'] at q1
  have g0 : DataW.trod enc Tryz.prog W base sp held n' 3 [c0] = some y0 := q0
  have g1 : DataW.trod enc Tryz.prog W base sp held n' 2 [c1] = some y1 := q1
  clear hg hxs hxs' hlen
  obtain ⟨z0, hz0, rfl, -⟩ := DataW.trod_int Tryz.underlying3 g0
  obtain ⟨z1, hz1, rfl, -⟩ := DataW.trod_int Tryz.underlying2 g1
  cases hz0; cases hz1
  exact ⟨⟨z0, z1⟩, trivial, rfl⟩
end
set_option maxRecDepth 100000 in
/-- A map that came in. -/
theorem map_open {H : Type} {enc : TypeId × Value → H} {W : World} {r : Reach} {base : Nat} {v : Value} {d : DataW H} {p : List MemPlace}
    (hval : Value.okWide Tryz.prog W r base 27 v) (h : DataW.Trod enc Tryz.prog W 0 (fun _ => true) true 27 v d p) : ∃ m : MapV, MapR W v m := by
  obtain ⟨cs, rfl, _⟩ := okWide_struct Tryz.underlying27 hval
  obtain ⟨fuel, hf⟩ := h
  obtain ⟨xs, n', hn, hx, hlen, hxs, hg⟩ := DataW.trod_struct Tryz.underlying27 hf
  obtain ⟨o4, p4, b2, i1, i1', -, e5⟩ := mapCells
  obtain ⟨s1, s2, s3, s4⟩ := mapRows
  rw [e5] at hlen
  have hxs' : xs.length = 5 := hxs
  have hlen' : cs.toList.length = 5 := hlen
  obtain ⟨c0, c1, c2, c3, c4, hcs⟩ := list5 cs.toList hlen'
  obtain rfl : cs = #[c0, c1, c2, c3, c4] := by cases cs; simp_all
  obtain ⟨y0, y1, y2, y3, y4, rfl⟩ := list5 xs hxs'
  have q0 : DataW.trod enc Tryz.prog W 0 (fun _ => true) true n' 2 (List.take (Tryz.prog.cellsOf 2) (List.drop 0 [c0, c1, c2, c3, c4])) = some y0 := hg 0 _ rfl
  have q1 : DataW.trod enc Tryz.prog W 0 (fun _ => true) true n' 22 (List.take (Tryz.prog.cellsOf 22) (List.drop 1 [c0, c1, c2, c3, c4])) = some y1 := hg 1 _ rfl
  have q2 : DataW.trod enc Tryz.prog W 0 (fun _ => true) true n' 23 (List.take (Tryz.prog.cellsOf 23) (List.drop 2 [c0, c1, c2, c3, c4])) = some y2 := hg 2 _ rfl
  have q3 : DataW.trod enc Tryz.prog W 0 (fun _ => true) true n' 24 (List.take (Tryz.prog.cellsOf 24) (List.drop 3 [c0, c1, c2, c3, c4])) = some y3 := hg 3 _ rfl
  have q4 : DataW.trod enc Tryz.prog W 0 (fun _ => true) true n' 25 (List.take (Tryz.prog.cellsOf 25) (List.drop 4 [c0, c1, c2, c3, c4])) = some y4 := hg 4 _ rfl
  rw [i1'] at q0
  rw [s1] at q1; rw [s2] at q2; rw [s3] at q3; rw [s4] at q4
  have g0 : DataW.trod enc Tryz.prog W 0 (fun _ => true) true n' 2 [c0] = some y0 := q0
  have g1 : DataW.trod enc Tryz.prog W 0 (fun _ => true) true n' 22 [c1] = some y1 := q1
  have g2 : DataW.trod enc Tryz.prog W 0 (fun _ => true) true n' 23 [c2] = some y2 := q2
  have g3 : DataW.trod enc Tryz.prog W 0 (fun _ => true) true n' 24 [c3] = some y3 := q3
  have g4 : DataW.trod enc Tryz.prog W 0 (fun _ => true) true n' 25 [c4] = some y4 := q4
  clear hg hxs hxs' hlen hlen' q0 q1 q2 q3 q4
  obtain ⟨z0, hz0, rfl, -⟩ := DataW.trod_int Tryz.underlying2 g0
  cases hz0
  obtain ⟨v1, f1, hv1, hs1, -, -⟩ := rows_open ic (fun _ => True) 1 22 3 (by decide) ic_len Tryz.underlying22 i1 (fun c d p n' h => int_cells h) g1
  obtain ⟨v2, f2, hv2, hs2, -, -⟩ := rows_open oc (fun _ => True) 4 23 74 (by decide) oc_len Tryz.underlying23 o4 (fun c d p n' h => osd_cells h) g2
  obtain ⟨v3, f3, hv3, hs3, -, -⟩ := rows_open pc (fun _ => True) 4 24 29 (by decide) pc_len Tryz.underlying24 p4 (fun c d p n' h => pool_cells h) g3
  obtain ⟨v4, f4, hv4, hs4, -, -⟩ := rows_open bc (fun _ => True) 2 25 93 (by decide) bc_len Tryz.underlying25 b2 (fun c d p n' h => ban_cells h) g4
  cases hv1; cases hv2; cases hv3; cases hv4
  exact ⟨⟨z0, f1, f2, f3, f4⟩, c1, c2, c3, c4, rfl, hs1, hs2, hs3, hs4⟩
end Go.Proofs.YtoeklnmmnmmjeaaGreat.crush
