/- Acts that came in. -/
import Derived.Test.YtalnmbfmfeaohaaGreatRows
import Derived.Test.YtalnmbfmfeaohaaGreatFlightLift
namespace Go.Proofs.YtalnmbfmfeaohaaGreat.flight
open Go.ChangeShapes Go.WideShapes Go.ChangeAt Go.RowKit
open Go.Proofs.YtalnmbfmfeaohaaGreat.kit Go.Proofs.YtalnmbfmfeaohaaGreat.own Go.Proofs.YtalnmbfmfeaohaaGreat.lift
set_option linter.unusedVariables false

/-- An act, as its seven cells are. -/
structure ActV where
  kind : Int
  num : Int
  src : Int
  dst : Int
  body : ByteArray
  va : Option Addr
  vn : Nat
  vc : Nat
  ua : Option Addr
  un : Nat
  uc : Nat
def ac (a : ActV) : List Value := [.int .i64 a.kind, .int .i64 a.num, .int .i64 a.src, .int .i64 a.dst, .string a.body, .slice a.va a.vn a.vc, .slice a.ua a.un a.uc]
theorem ac_len (x : ActV) : (ac x).length = 7 := rfl
def ActV.Ok (a : ActV) : Prop := Wy.Ok (a.src, a.dst) ∧ I64 a.num
theorem list7 {α : Type} : ∀ (l : List α), l.length = 7 → ∃ a b c d e f g, l = [a, b, c, d, e, f, g]
  | [a, b, c, d, e, f, g], _ => ⟨a, b, c, d, e, f, g, rfl⟩
theorem cAct : Tryz.prog.cellsOf 34 = 7 ∧ Tryz.prog.cellsOf 32 = 1 := ⟨by kernel_rfl, by kernel_rfl⟩
theorem bAct : Tryz.prog.bytesOf 34 = 96 := by kernel_rfl

theorem act_open {H : Type} {enc : TypeId × Value → H} {W : World} {base n : Nat} {sp : Nat → Bool} {held : Bool} {a : Addr} {cs : List Value} {d : DataW H} {p : List MemPlace}
    (hc : W.cells? base a 7 = some cs) (h : DataW.trod enc Tryz.prog W base sp held n 34 cs = some (d, p)) :
    ∃ f : ActV, f.Ok ∧ (∀ j, j < 7 → W.cell? (a.add j) = cs[j]?) ∧ cs = ac f := by
  obtain ⟨xs, n', hn, hx, hlen, hxs, hg⟩ := DataW.trod_struct Tryz.underlying34 h
  obtain ⟨-, -, -, e1, e2, e3, -, -⟩ := cellsAll
  rw [cAct.1] at hlen
  have hxs' : xs.length = 7 := hxs
  obtain ⟨c0, c1, c2, c3, c4, c5, c6, rfl⟩ := list7 cs hlen
  obtain ⟨y0, y1, y2, y3, y4, y5, y6, rfl⟩ := list7 xs hxs'
  have q0 : DataW.trod enc Tryz.prog W base sp held n' 3 (List.take (Tryz.prog.cellsOf 3) (List.drop 0 [c0, c1, c2, c3, c4, c5, c6])) = some y0 := hg 0 _ rfl
  rw [e1] at q0
  have g0 : DataW.trod enc Tryz.prog W base sp held n' 3 [c0] = some y0 := q0
  have q1 : DataW.trod enc Tryz.prog W base sp held n' 2 (List.take (Tryz.prog.cellsOf 2) (List.drop 1 [c0, c1, c2, c3, c4, c5, c6])) = some y1 := hg 1 _ rfl
  rw [e2] at q1
  have g1 : DataW.trod enc Tryz.prog W base sp held n' 2 [c1] = some y1 := q1
  have q2 : DataW.trod enc Tryz.prog W base sp held n' 3 (List.take (Tryz.prog.cellsOf 3) (List.drop 2 [c0, c1, c2, c3, c4, c5, c6])) = some y2 := hg 2 _ rfl
  rw [e1] at q2
  have g2 : DataW.trod enc Tryz.prog W base sp held n' 3 [c2] = some y2 := q2
  have q3 : DataW.trod enc Tryz.prog W base sp held n' 3 (List.take (Tryz.prog.cellsOf 3) (List.drop 3 [c0, c1, c2, c3, c4, c5, c6])) = some y3 := hg 3 _ rfl
  rw [e1] at q3
  have g3 : DataW.trod enc Tryz.prog W base sp held n' 3 [c3] = some y3 := q3
  have q4 : DataW.trod enc Tryz.prog W base sp held n' 9 (List.take (Tryz.prog.cellsOf 9) (List.drop 4 [c0, c1, c2, c3, c4, c5, c6])) = some y4 := hg 4 _ rfl
  rw [e3] at q4
  have g4 : DataW.trod enc Tryz.prog W base sp held n' 9 [c4] = some y4 := q4
  have q5 : DataW.trod enc Tryz.prog W base sp held n' 32 (List.take (Tryz.prog.cellsOf 32) (List.drop 5 [c0, c1, c2, c3, c4, c5, c6])) = some y5 := hg 5 _ rfl
  rw [cAct.2] at q5
  have g5 : DataW.trod enc Tryz.prog W base sp held n' 32 [c5] = some y5 := q5
  have q6 : DataW.trod enc Tryz.prog W base sp held n' 32 (List.take (Tryz.prog.cellsOf 32) (List.drop 6 [c0, c1, c2, c3, c4, c5, c6])) = some y6 := hg 6 _ rfl
  rw [cAct.2] at q6
  have g6 : DataW.trod enc Tryz.prog W base sp held n' 32 [c6] = some y6 := q6
  have s5 : ∃ a n c, c5 = .slice a n c := by
    rcases Deep.open_slice Tryz.underlying32 g5 with ⟨hcs, _⟩ | ⟨a, len, cap, m, n2, D, Pl, hcs, _⟩ <;> (cases hcs; exact ⟨_, _, _, rfl⟩)
  have s6 : ∃ a n c, c6 = .slice a n c := by
    rcases Deep.open_slice Tryz.underlying32 g6 with ⟨hcs, _⟩ | ⟨a, len, cap, m, n2, D, Pl, hcs, _⟩ <;> (cases hcs; exact ⟨_, _, _, rfl⟩)
  obtain ⟨a5, n5, d5, rfl⟩ := s5
  obtain ⟨a6, n6, d6, rfl⟩ := s6
  clear hg hxs hxs' hlen
  obtain ⟨z0, hz0, rfl, hw0⟩ := DataW.trod_int Tryz.underlying3 g0
  obtain ⟨z1, hz1, rfl, hw1⟩ := DataW.trod_int Tryz.underlying2 g1
  obtain ⟨z2, hz2, rfl, hw2⟩ := DataW.trod_int Tryz.underlying3 g2
  obtain ⟨z3, hz3, rfl, hw3⟩ := DataW.trod_int Tryz.underlying3 g3
  obtain ⟨z4, hz4, rfl, hw4⟩ := DataW.trod_string Tryz.underlying9 g4
  cases hz0; cases hz1; cases hz2; cases hz3; cases hz4
  exact ⟨⟨z0, z1, z2, z3, z4, a5, n5, d5, a6, n6, d6⟩, ⟨⟨i64_of hw2, i64_of hw3⟩, i64_of hw1⟩, (World.cells?_some hc).2.2, rfl⟩

set_option maxRecDepth 100000 in
/-- Acts that came in. -/
theorem acts_open {H : Type} {enc : TypeId × Value → H} {W : World} {r : Reach} {base : Nat} {v : Value} {d : DataW H} {p : List MemPlace}
    (hval : Value.okWide Tryz.prog W r base 26 v) (h : DataW.Trod enc Tryz.prog W 0 (fun _ => true) true 26 v d p) (hz : ∀ n ∈ d.weights Tryz.prog 26, n ≤ reachBytes) :
    ∃ acts : List ActV, Sl ac 7 W v acts ∧ (∀ a ∈ acts, a.Ok) ∧ acts.length * 96 ≤ 140737488355328 := by
  obtain ⟨a0, len, cap, rfl⟩ := okWide_slice Tryz.underlying26 hval
  obtain ⟨fuel, hf⟩ := h
  obtain ⟨v1, fs, hv1, hs1, ho1, hl1⟩ := rows_cells ac ActV.Ok 7 26 34 96 (by decide) (by decide) ac_len Tryz.underlying26 cAct.1 bAct (fun a c d p n' h1 h2 => act_open h1 h2) hf hz
  simp [Value.cells] at hv1
  rw [← hv1] at hs1
  exact ⟨fs, hs1, ho1, hl1⟩

end Go.Proofs.YtalnmbfmfeaohaaGreat.flight
