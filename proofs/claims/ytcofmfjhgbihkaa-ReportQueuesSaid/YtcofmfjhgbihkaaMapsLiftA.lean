/- Texts laid together: MapsLift, RowOpen, MapsLiftM, MapsLift2. -/
import Derived.Test.YtcofmfjhgbihkaaRows
import Derived.Test.YtcofmfjhgbihkaaLift
import Derived.Test.YtcofmfjhgbihkaaMapsInc
import Derived.Deep.Slices
import Derived.Deep.Fields
import Derived.Test.YtcofmfjhgbihkaaCrushBase
import Derived.Test.YtcofmfjhgbihkaaMapsFit
import Derived.Test.YtcofmfjhgbihkaaMapsOk
namespace Go.Proofs.Ytcofmfjhgbihkaa.crush
open Go.ChangeShapes Go.WideShapes Go.ChangeAt Go.RowKit
open Go.Proofs.Ytcofmfjhgbihkaa.kit Go.Proofs.Ytcofmfjhgbihkaa.own Go.Proofs.Ytcofmfjhgbihkaa.lift
set_option linter.unusedVariables false
set_option linter.unusedSimpArgs false

theorem own : ownKnob Try.prog.godebug = none := by kernel_rfl
theorem laidOut : laidOutB Try.prog = true := by kernel_rfl
theorem incCells : Try.prog.cellsOf 87 = 8 ∧ Try.prog.cellsOf 85 = 4 ∧ Try.prog.cellsOf 3 = 1 ∧ Try.prog.cellsOf 2 = 1 := ⟨by kernel_rfl, by kernel_rfl, by kernel_rfl, by kernel_rfl⟩
theorem list8 {α : Type} : ∀ (l : List α), l.length = 8 → ∃ a b c d e f g h, l = [a, b, c, d, e, f, g, h]
  | [a, b, c, d, e, f, g, h], _ => ⟨a, b, c, d, e, f, g, h, rfl⟩
theorem list5 {α : Type} : ∀ (l : List α), l.length = 5 → ∃ a b c d e, l = [a, b, c, d, e]
  | [a, b, c, d, e], _ => ⟨a, b, c, d, e, rfl⟩
theorem list4' {α : Type} : ∀ (l : List α), l.length = 4 → ∃ a b c d, l = [a, b, c, d]
  | [a, b, c, d], _ => ⟨a, b, c, d, rfl⟩

set_option maxRecDepth 100000 in
theorem inc_cells {H : Type} {enc : TypeId × Value → H} {W : World} {base n : Nat} {sp : Nat → Bool} {held : Bool} {cs : List Value} {d : DataW H} {p : List MemPlace}
    (h : DataW.trod enc Try.prog W base sp held n 87 cs = some (d, p)) :
    ∃ c : IncV, cs = [.int .i64 c.kind, .int .i64 c.osd, .int .i64 c.client, .int .i64 c.num, .int .i64 c.pool.size, .int .i64 c.pool.min, .int .i64 c.pool.pgs, .int .i64 c.pool.dom] ∧ (Lit.int .i64 c.kind).wf = true ∧ (Lit.int .i64 c.osd).wf = true ∧ (Lit.int .i64 c.client).wf = true ∧ (Lit.int .i64 c.num).wf = true := by
  obtain ⟨xs, n', hn, hx, hlen, hxs, hg⟩ := DataW.trod_struct Try.underlying87 h
  obtain ⟨e8, e4, e1, e2⟩ := incCells
  rw [e8] at hlen
  have hxs' : xs.length = 5 := hxs
  obtain ⟨c0, c1, c2, c3, c4, c5, c6, c7, rfl⟩ := list8 cs hlen
  obtain ⟨y0, y1, y2, y3, y4, rfl⟩ := list5 xs hxs'
  have q0 : DataW.trod enc Try.prog W base sp held n' 3 (List.take (Try.prog.cellsOf 3) (List.drop 0 [c0, c1, c2, c3, c4, c5, c6, c7])) = some y0 := hg 0 _ rfl
  have q1 : DataW.trod enc Try.prog W base sp held n' 3 (List.take (Try.prog.cellsOf 3) (List.drop 1 [c0, c1, c2, c3, c4, c5, c6, c7])) = some y1 := hg 1 _ rfl
  have q2 : DataW.trod enc Try.prog W base sp held n' 3 (List.take (Try.prog.cellsOf 3) (List.drop 2 [c0, c1, c2, c3, c4, c5, c6, c7])) = some y2 := hg 2 _ rfl
  have q3 : DataW.trod enc Try.prog W base sp held n' 2 (List.take (Try.prog.cellsOf 2) (List.drop 3 [c0, c1, c2, c3, c4, c5, c6, c7])) = some y3 := hg 3 _ rfl
  have q4 : DataW.trod enc Try.prog W base sp held n' 85 (List.take (Try.prog.cellsOf 85) (List.drop 4 [c0, c1, c2, c3, c4, c5, c6, c7])) = some y4 := hg 4 _ rfl
  rw [e1] at q0 q1 q2
  rw [e2] at q3
  rw [e4] at q4
  have g0 : DataW.trod enc Try.prog W base sp held n' 3 [c0] = some y0 := q0
  have g1 : DataW.trod enc Try.prog W base sp held n' 3 [c1] = some y1 := q1
  have g2 : DataW.trod enc Try.prog W base sp held n' 3 [c2] = some y2 := q2
  have g3 : DataW.trod enc Try.prog W base sp held n' 2 [c3] = some y3 := q3
  have g4 : DataW.trod enc Try.prog W base sp held n' 85 [c4, c5, c6, c7] = some y4 := q4
  clear hg hxs hxs' hlen q0 q1 q2 q3 q4
  obtain ⟨xs, m, hm, hx2, hlen, hxs, hg⟩ := DataW.trod_struct Try.underlying85 g4
  have hxs' : xs.length = 4 := hxs
  obtain ⟨z4, z5, z6, z7, rfl⟩ := list4' xs hxs'
  have q4 : DataW.trod enc Try.prog W base sp held m 3 (List.take (Try.prog.cellsOf 3) (List.drop 0 [c4, c5, c6, c7])) = some z4 := hg 0 _ rfl
  have q5 : DataW.trod enc Try.prog W base sp held m 3 (List.take (Try.prog.cellsOf 3) (List.drop 1 [c4, c5, c6, c7])) = some z5 := hg 1 _ rfl
  have q6 : DataW.trod enc Try.prog W base sp held m 3 (List.take (Try.prog.cellsOf 3) (List.drop 2 [c4, c5, c6, c7])) = some z6 := hg 2 _ rfl
  have q7 : DataW.trod enc Try.prog W base sp held m 3 (List.take (Try.prog.cellsOf 3) (List.drop 3 [c4, c5, c6, c7])) = some z7 := hg 3 _ rfl
  rw [e1] at q4 q5 q6 q7
  have k4 : DataW.trod enc Try.prog W base sp held m 3 [c4] = some z4 := q4
  have k5 : DataW.trod enc Try.prog W base sp held m 3 [c5] = some z5 := q5
  have k6 : DataW.trod enc Try.prog W base sp held m 3 [c6] = some z6 := q6
  have k7 : DataW.trod enc Try.prog W base sp held m 3 [c7] = some z7 := q7
  clear hg hxs hxs' hlen q4 q5 q6 q7
  obtain ⟨a0, ha0, rfl, hw0⟩ := DataW.trod_int Try.underlying3 g0
  obtain ⟨a1, ha1, rfl, hw1⟩ := DataW.trod_int Try.underlying3 g1
  obtain ⟨a2, ha2, rfl, hw2⟩ := DataW.trod_int Try.underlying3 g2
  obtain ⟨a3, ha3, rfl, hw3⟩ := DataW.trod_int Try.underlying2 g3
  obtain ⟨a4, ha4, rfl, hw4⟩ := DataW.trod_int Try.underlying3 k4
  obtain ⟨a5, ha5, rfl, hw5⟩ := DataW.trod_int Try.underlying3 k5
  obtain ⟨a6, ha6, rfl, hw6⟩ := DataW.trod_int Try.underlying3 k6
  obtain ⟨a7, ha7, rfl, hw7⟩ := DataW.trod_int Try.underlying3 k7
  cases ha0; cases ha1; cases ha2; cases ha3; cases ha4; cases ha5; cases ha6; cases ha7
  exact ⟨⟨a0, a1, a2, a3, ⟨a4, a5, a6, a7⟩⟩, rfl, hw0, hw1, hw2, hw3⟩

set_option maxRecDepth 100000 in
theorem inc_open {H : Type} {enc : TypeId × Value → H} {W : World} {r : Reach} {base : Nat} {v : Value} {d : DataW H} {p : List MemPlace}
    (hval : Value.okWide Try.prog W r base 87 v) (h : DataW.Trod enc Try.prog W 0 (fun _ => true) true 87 v d p) :
    ∃ c : IncV, v = c.val ∧ (Lit.int .i64 c.kind).wf = true ∧ (Lit.int .i64 c.osd).wf = true ∧ (Lit.int .i64 c.client).wf = true ∧ (Lit.int .i64 c.num).wf = true := by
  obtain ⟨cs, rfl, hs⟩ := okWide_struct Try.underlying87 hval
  obtain ⟨fuel, hf⟩ := h
  obtain ⟨c, hc, h0⟩ := inc_cells hf
  refine ⟨c, ?_, h0⟩
  unfold IncV.val
  simp only [Value.cells] at hc
  congr 1
  exact Array.ext' hc
end Go.Proofs.Ytcofmfjhgbihkaa.crush

namespace Go.Proofs.Ytcofmfjhgbihkaa.crush
open Go.ChangeShapes Go.WideShapes Go.ChangeAt Go.RowKit
open Go.Proofs.Ytcofmfjhgbihkaa.kit Go.Proofs.Ytcofmfjhgbihkaa.own Go.Proofs.Ytcofmfjhgbihkaa.lift
set_option linter.unusedVariables false

/-- A slice of rows of k cells, opened. -/
theorem rows_open {H : Type} {enc : TypeId × Value → H} {α : Type} (ec : α → List Value) (Ok : α → Prop) (k t te : Nat) (hk0 : 0 < k) (hk : ∀ x, (ec x).length = k) (ht : Try.prog.underlying t = some (.slice te)) (hce : Try.prog.cellsOf te = k)
    {W : World} {n : Nat} {cs : List Value} {x : DataW H × List MemPlace}
    (op : ∀ (c : List Value) (d : DataW H) (p : List MemPlace) (n' : Nat), DataW.trod enc Try.prog W 0 (fun _ => true) true n' te c = some (d, p) → ∃ f : α, Ok f ∧ c = ec f)
    (h : DataW.trod enc Try.prog W 0 (fun _ => true) true n t cs = some x) :
    ∃ v fs, cs = [v] ∧ Sl ec k W v fs ∧ (∀ f ∈ fs, Ok f) ∧ ∃ x c, v = .slice x fs.length c ∧ fs.length ≤ c := by
  rcases Deep.open_slice ht h with ⟨hcs, hx⟩ | ⟨a, len, cap, m, n2, D, Pl, hcs, _, hl, hcap, hm, hx, hi⟩
  · exact ⟨_, [], hcs, Sl.nil _, by simp, _, _, rfl, Nat.le_refl _⟩
  · simp only [if_true] at hm
    subst hm
    have each : ∀ i, i < m → ∃ f : α, Ok f ∧ ∀ j u, (ec f)[j]? = some u → W.cell? ((a.add (i * k)).add j) = some u := by
      intro i him
      obtain ⟨cs', hc, ht'⟩ := hi i him
      rw [hce] at hc
      obtain ⟨f, h1, rfl⟩ := op _ _ _ _ ht'
      have h2 := (World.cells?_some hc).2.2
      refine ⟨f, h1, fun j u hu => ?_⟩
      have hj : j < k := by have := (List.getElem?_eq_some_iff.1 hu).1; rwa [hk] at this
      rw [h2 j hj]; exact hu
    let fs : List α := (List.range len).pmap (fun i hi => (each i hi).choose) (fun i hi => by have := List.mem_range.1 hi; omega)
    have hlen : fs.length = len := by simp [fs]
    have hget : ∀ j (hj : j < fs.length), ∃ hj' : j < m, fs[j] = (each j hj').choose := by
      intro j hj
      refine ⟨by omega, ?_⟩
      simp [fs]
    refine ⟨_, fs, hcs, ⟨by rw [hlen]; unfold maxLen at hcap; omega, some a, m, by rw [hlen], (fun h => by cases h), fun hp => ?_⟩, ?_, _, _, by rw [hlen], by rw [hlen]; omega⟩
    · rw [hlen] at hp
      obtain ⟨b, off, spot⟩ := a
      obtain ⟨f0, _, c0⟩ := each 0 (by omega)
      have hl0 : 0 < (ec f0).length := by rw [hk]; exact hk0
      have c00 := c0 0 (ec f0)[0] (by simp [hl0])
      obtain rfl : spot = none := by simpa [Addr.add] using World.cell?_spot c00
      refine ⟨b, off, rfl, ?_, ?_⟩
      · have := cell?_lt c00
        simpa [Addr.add] using this
      · intro j hj i u hu
        obtain ⟨hj', he⟩ := hget j hj
        rw [he] at hu
        have := (each j hj').choose_spec.2 i u hu
        rw [add_plain', add_plain'] at this
        exact this
    · intro f hf
      obtain ⟨j, hj, rfl⟩ := List.getElem_of_mem hf
      obtain ⟨hj', he⟩ := hget j hj
      rw [he]
      exact (each j hj').choose_spec.1

end Go.Proofs.Ytcofmfjhgbihkaa.crush

namespace Go.Proofs.Ytcofmfjhgbihkaa.crush
open Go.ChangeShapes Go.WideShapes Go.ChangeAt Go.RowKit
open Go.Proofs.Ytcofmfjhgbihkaa.kit Go.Proofs.Ytcofmfjhgbihkaa.own Go.Proofs.Ytcofmfjhgbihkaa.lift
set_option linter.unusedVariables false
set_option linter.unusedSimpArgs false

theorem mapCells : Try.prog.cellsOf 132 = 4 ∧ Try.prog.cellsOf 85 = 4 ∧ Try.prog.cellsOf 136 = 2 ∧ Try.prog.cellsOf 3 = 1 ∧ Try.prog.cellsOf 2 = 1 ∧ Try.prog.cellsOf 4 = 1 ∧ Try.prog.cellsOf 83 = 5 :=
  ⟨by kernel_rfl, by kernel_rfl, by kernel_rfl, by kernel_rfl, by kernel_rfl, by kernel_rfl, by kernel_rfl⟩
theorem mapRows : Try.prog.cellsOf 25 = 1 ∧ Try.prog.cellsOf 79 = 1 ∧ Try.prog.cellsOf 80 = 1 ∧ Try.prog.cellsOf 81 = 1 := ⟨by kernel_rfl, by kernel_rfl, by kernel_rfl, by kernel_rfl⟩
theorem list2' {α : Type} : ∀ (l : List α), l.length = 2 → ∃ a b, l = [a, b]
  | [a, b], _ => ⟨a, b, rfl⟩
section
variable {H : Type} {enc : TypeId × Value → H} {W : World} {base n : Nat} {sp : Nat → Bool} {held : Bool} {cs : List Value} {d : DataW H} {p : List MemPlace}
theorem int_cells (h : DataW.trod enc Try.prog W base sp held n 3 cs = some (d, p)) : ∃ z : Int, True ∧ cs = ic z := by
  obtain ⟨z, hz, -, -⟩ := DataW.trod_int Try.underlying3 h
  exact ⟨z, trivial, hz⟩
theorem osd_cells (h : DataW.trod enc Try.prog W base sp held n 132 cs = some (d, p)) : ∃ f : OsdV, True ∧ cs = oc f := by
  obtain ⟨xs, n', hn, hx, hlen, hxs, hg⟩ := DataW.trod_struct Try.underlying132 h
  obtain ⟨e4, -, -, -, e1, eb, -⟩ := mapCells
  rw [e4] at hlen
  have hxs' : xs.length = 4 := hxs
  obtain ⟨c0, c1, c2, c3, rfl⟩ := list4' cs hlen
  obtain ⟨y0, y1, y2, y3, rfl⟩ := list4' xs hxs'
  have q0 : DataW.trod enc Try.prog W base sp held n' 2 (List.take (Try.prog.cellsOf 2) (List.drop 0 [c0, c1, c2, c3])) = some y0 := hg 0 _ rfl
  have q1 : DataW.trod enc Try.prog W base sp held n' 4 (List.take (Try.prog.cellsOf 4) (List.drop 1 [c0, c1, c2, c3])) = some y1 := hg 1 _ rfl
  have q2 : DataW.trod enc Try.prog W base sp held n' 2 (List.take (Try.prog.cellsOf 2) (List.drop 2 [c0, c1, c2, c3])) = some y2 := hg 2 _ rfl
  have q3 : DataW.trod enc Try.prog W base sp held n' 2 (List.take (Try.prog.cellsOf 2) (List.drop 3 [c0, c1, c2, c3])) = some y3 := hg 3 _ rfl
  rw [e1] at q0 q2 q3
  rw [eb] at q1
  have g0 : DataW.trod enc Try.prog W base sp held n' 2 [c0] = some y0 := q0
  have g1 : DataW.trod enc Try.prog W base sp held n' 4 [c1] = some y1 := q1
  have g2 : DataW.trod enc Try.prog W base sp held n' 2 [c2] = some y2 := q2
  have g3 : DataW.trod enc Try.prog W base sp held n' 2 [c3] = some y3 := q3
  clear hg hxs hxs' hlen
  obtain ⟨z0, hz0, rfl, -⟩ := DataW.trod_int Try.underlying2 g0
  obtain ⟨z1, hz1, rfl⟩ := DataW.trod_bool Try.underlying4 g1
  obtain ⟨z2, hz2, rfl, -⟩ := DataW.trod_int Try.underlying2 g2
  obtain ⟨z3, hz3, rfl, -⟩ := DataW.trod_int Try.underlying2 g3
  cases hz0; cases hz1; cases hz2; cases hz3
  exact ⟨⟨z0, z1, z2, z3⟩, trivial, rfl⟩
theorem pool_cells (h : DataW.trod enc Try.prog W base sp held n 85 cs = some (d, p)) : ∃ f : PoolV, True ∧ cs = pc f := by
  obtain ⟨xs, n', hn, hx, hlen, hxs, hg⟩ := DataW.trod_struct Try.underlying85 h
  obtain ⟨-, e4, -, e1, -, -, -⟩ := mapCells
  rw [e4] at hlen
  have hxs' : xs.length = 4 := hxs
  obtain ⟨c0, c1, c2, c3, rfl⟩ := list4' cs hlen
  obtain ⟨y0, y1, y2, y3, rfl⟩ := list4' xs hxs'
  have q0 : DataW.trod enc Try.prog W base sp held n' 3 (List.take (Try.prog.cellsOf 3) (List.drop 0 [c0, c1, c2, c3])) = some y0 := hg 0 _ rfl
  have q1 : DataW.trod enc Try.prog W base sp held n' 3 (List.take (Try.prog.cellsOf 3) (List.drop 1 [c0, c1, c2, c3])) = some y1 := hg 1 _ rfl
  have q2 : DataW.trod enc Try.prog W base sp held n' 3 (List.take (Try.prog.cellsOf 3) (List.drop 2 [c0, c1, c2, c3])) = some y2 := hg 2 _ rfl
  have q3 : DataW.trod enc Try.prog W base sp held n' 3 (List.take (Try.prog.cellsOf 3) (List.drop 3 [c0, c1, c2, c3])) = some y3 := hg 3 _ rfl
  rw [e1] at q0 q1 q2 q3
  have g0 : DataW.trod enc Try.prog W base sp held n' 3 [c0] = some y0 := q0
  have g1 : DataW.trod enc Try.prog W base sp held n' 3 [c1] = some y1 := q1
  have g2 : DataW.trod enc Try.prog W base sp held n' 3 [c2] = some y2 := q2
  have g3 : DataW.trod enc Try.prog W base sp held n' 3 [c3] = some y3 := q3
  clear hg hxs hxs' hlen
  obtain ⟨z0, hz0, rfl, -⟩ := DataW.trod_int Try.underlying3 g0
  obtain ⟨z1, hz1, rfl, -⟩ := DataW.trod_int Try.underlying3 g1
  obtain ⟨z2, hz2, rfl, -⟩ := DataW.trod_int Try.underlying3 g2
  obtain ⟨z3, hz3, rfl, -⟩ := DataW.trod_int Try.underlying3 g3
  cases hz0; cases hz1; cases hz2; cases hz3
  exact ⟨⟨z0, z1, z2, z3⟩, trivial, rfl⟩
theorem ban_cells (h : DataW.trod enc Try.prog W base sp held n 136 cs = some (d, p)) : ∃ f : BanV, True ∧ cs = bc f := by
  obtain ⟨xs, n', hn, hx, hlen, hxs, hg⟩ := DataW.trod_struct Try.underlying136 h
  obtain ⟨-, -, e2, e1, e1', -, -⟩ := mapCells
  rw [e2] at hlen
  have hxs' : xs.length = 2 := hxs
  obtain ⟨c0, c1, rfl⟩ := list2' cs hlen
  obtain ⟨y0, y1, rfl⟩ := list2' xs hxs'
  have q0 : DataW.trod enc Try.prog W base sp held n' 3 (List.take (Try.prog.cellsOf 3) (List.drop 0 [c0, c1])) = some y0 := hg 0 _ rfl
  have q1 : DataW.trod enc Try.prog W base sp held n' 2 (List.take (Try.prog.cellsOf 2) (List.drop 1 [c0, c1])) = some y1 := hg 1 _ rfl
  rw [e1] at q0
  rw [e1'] at q1
  have g0 : DataW.trod enc Try.prog W base sp held n' 3 [c0] = some y0 := q0
  have g1 : DataW.trod enc Try.prog W base sp held n' 2 [c1] = some y1 := q1
  clear hg hxs hxs' hlen
  obtain ⟨z0, hz0, rfl, -⟩ := DataW.trod_int Try.underlying3 g0
  obtain ⟨z1, hz1, rfl, -⟩ := DataW.trod_int Try.underlying2 g1
  cases hz0; cases hz1
  exact ⟨⟨z0, z1⟩, trivial, rfl⟩
end
set_option maxRecDepth 100000 in
/-- A map that came in. -/
theorem map_open {H : Type} {enc : TypeId × Value → H} {W : World} {r : Reach} {base : Nat} {v : Value} {d : DataW H} {p : List MemPlace}
    (hval : Value.okWide Try.prog W r base 83 v) (h : DataW.Trod enc Try.prog W 0 (fun _ => true) true 83 v d p) : ∃ m : MapV, MapR W v m := by
  obtain ⟨cs, rfl, _⟩ := okWide_struct Try.underlying83 hval
  obtain ⟨fuel, hf⟩ := h
  obtain ⟨xs, n', hn, hx, hlen, hxs, hg⟩ := DataW.trod_struct Try.underlying83 hf
  obtain ⟨o4, p4, b2, i1, i1', -, e5⟩ := mapCells
  obtain ⟨s1, s2, s3, s4⟩ := mapRows
  rw [e5] at hlen
  have hxs' : xs.length = 5 := hxs
  have hlen' : cs.toList.length = 5 := hlen
  obtain ⟨c0, c1, c2, c3, c4, hcs⟩ := list5 cs.toList hlen'
  obtain rfl : cs = #[c0, c1, c2, c3, c4] := by cases cs; simp_all
  obtain ⟨y0, y1, y2, y3, y4, rfl⟩ := list5 xs hxs'
  have q0 : DataW.trod enc Try.prog W 0 (fun _ => true) true n' 2 (List.take (Try.prog.cellsOf 2) (List.drop 0 [c0, c1, c2, c3, c4])) = some y0 := hg 0 _ rfl
  have q1 : DataW.trod enc Try.prog W 0 (fun _ => true) true n' 25 (List.take (Try.prog.cellsOf 25) (List.drop 1 [c0, c1, c2, c3, c4])) = some y1 := hg 1 _ rfl
  have q2 : DataW.trod enc Try.prog W 0 (fun _ => true) true n' 79 (List.take (Try.prog.cellsOf 79) (List.drop 2 [c0, c1, c2, c3, c4])) = some y2 := hg 2 _ rfl
  have q3 : DataW.trod enc Try.prog W 0 (fun _ => true) true n' 80 (List.take (Try.prog.cellsOf 80) (List.drop 3 [c0, c1, c2, c3, c4])) = some y3 := hg 3 _ rfl
  have q4 : DataW.trod enc Try.prog W 0 (fun _ => true) true n' 81 (List.take (Try.prog.cellsOf 81) (List.drop 4 [c0, c1, c2, c3, c4])) = some y4 := hg 4 _ rfl
  rw [i1'] at q0
  rw [s1] at q1; rw [s2] at q2; rw [s3] at q3; rw [s4] at q4
  have g0 : DataW.trod enc Try.prog W 0 (fun _ => true) true n' 2 [c0] = some y0 := q0
  have g1 : DataW.trod enc Try.prog W 0 (fun _ => true) true n' 25 [c1] = some y1 := q1
  have g2 : DataW.trod enc Try.prog W 0 (fun _ => true) true n' 79 [c2] = some y2 := q2
  have g3 : DataW.trod enc Try.prog W 0 (fun _ => true) true n' 80 [c3] = some y3 := q3
  have g4 : DataW.trod enc Try.prog W 0 (fun _ => true) true n' 81 [c4] = some y4 := q4
  clear hg hxs hxs' hlen hlen' q0 q1 q2 q3 q4
  obtain ⟨z0, hz0, rfl, -⟩ := DataW.trod_int Try.underlying2 g0
  cases hz0
  obtain ⟨v1, f1, hv1, hs1, -, -⟩ := rows_open ic (fun _ => True) 1 25 3 (by decide) ic_len Try.underlying25 i1 (fun c d p n' h => int_cells h) g1
  obtain ⟨v2, f2, hv2, hs2, -, -⟩ := rows_open oc (fun _ => True) 4 79 132 (by decide) oc_len Try.underlying79 o4 (fun c d p n' h => osd_cells h) g2
  obtain ⟨v3, f3, hv3, hs3, -, -⟩ := rows_open pc (fun _ => True) 4 80 85 (by decide) pc_len Try.underlying80 p4 (fun c d p n' h => pool_cells h) g3
  obtain ⟨v4, f4, hv4, hs4, -, -⟩ := rows_open bc (fun _ => True) 2 81 136 (by decide) bc_len Try.underlying81 b2 (fun c d p n' h => ban_cells h) g4
  cases hv1; cases hv2; cases hv3; cases hv4
  exact ⟨⟨z0, f1, f2, f3, f4⟩, c1, c2, c3, c4, rfl, hs1, hs2, hs3, hs4⟩
end Go.Proofs.Ytcofmfjhgbihkaa.crush

namespace Go.Proofs.Ytcofmfjhgbihkaa.crush
open Go.ChangeShapes Go.WideShapes Go.ChangeAt Go.RowKit
open Go.Proofs.Ytcofmfjhgbihkaa.kit Go.Proofs.Ytcofmfjhgbihkaa.own Go.Proofs.Ytcofmfjhgbihkaa.lift
set_option linter.unusedVariables false
set_option linter.unusedSimpArgs false

def numM {H : Type} : DataW H → Int
  | .lit (.int _ a) => a
  | _ => 0
theorem list1M {α : Type} : ∀ (l : List α), l.length = 1 → ∃ a, l = [a]
  | [a], _ => ⟨a, rfl⟩

set_option maxRecDepth 100000 in
theorem intsM_open {H : Type} {enc : TypeId × Value → H} {W : World} {r : Reach} {base : Nat} {v : Value} {d : DataW H} {p : List MemPlace}
    (hval : Value.okWide Try.prog W r base 25 v) (h : DataW.Trod enc Try.prog W 0 (fun _ => true) true 25 v d p) :
    ∃ ns : List Int, Sl ic 1 W v ns ∧ (∀ z ∈ ns, I64 z) ∧ CapM v ns.length := by
  obtain ⟨a0, len, cap, rfl⟩ := okWide_slice Try.underlying25 hval
  obtain ⟨fuel, hf⟩ := h
  rcases Deep.open_slice Try.underlying25 hf with ⟨hcs, hx⟩ | ⟨a, len', cap', m, n, D, Pl, hcs, _, hl, hcap, hm, hx, hi⟩
  · simp [Value.cells] at hcs
    obtain ⟨rfl, rfl, rfl⟩ := hcs
    exact ⟨[], Sl.nil _, by simp, ⟨_, _, rfl, Nat.le_refl _, by omega⟩⟩
  · simp [Value.cells] at hcs
    obtain ⟨rfl, rfl, rfl⟩ := hcs
    simp only [if_true] at hm
    subst hm
    have each : ∀ i, i < m → ∃ z : Int, numM (D i) = z ∧ I64 z ∧ W.cell? ((a.add (i * 1)).add 0) = some (.int .i64 z) := by
      intro i him
      obtain ⟨cs', hc, ht⟩ := hi i him
      rw [incCells.2.2.1] at hc
      obtain ⟨c0, rfl⟩ := list1M cs' (World.cells?_some hc).2.1
      obtain ⟨z0, hz0, h2, hw0⟩ := DataW.trod_int Try.underlying3 ht
      cases hz0
      obtain ⟨h2, -⟩ := Prod.mk.inj h2
      refine ⟨z0, by rw [h2]; rfl, ?_, ?_⟩
      · have h0 : -9223372036854775808 ≤ z0 ∧ z0 ≤ 9223372036854775807 := by simpa [Lit.wf, IntKind.min, IntKind.max, IntKind.signed, IntKind.bits] using hw0
        exact h0
      · exact (World.cells?_some hc).2.2 0 (by omega)
    have hlen : ((List.range len).map fun i => numM (D i)).length = len := by simp
    refine ⟨(List.range len).map fun i => numM (D i), ⟨by rw [hlen]; unfold maxLen at hcap; omega, some a, m, by rw [hlen], (fun h => by cases h), fun hp => ?_⟩, ?_, ⟨_, _, by rw [hlen], by rw [hlen]; omega, by unfold maxLen at hcap; omega⟩⟩
    · rw [hlen] at hp
      obtain ⟨b, off, spot⟩ := a
      obtain ⟨f0, _, _, c0⟩ := each 0 (by omega)
      obtain rfl : spot = none := by simpa [Addr.add] using World.cell?_spot c0
      refine ⟨b, off, rfl, ?_, ?_⟩
      · have := cell?_lt c0
        simpa [Addr.add] using this
      · intro j hj
        rw [hlen] at hj
        obtain ⟨f, hf, _, c0⟩ := each j (by omega)
        have e : ((List.range len).map fun i => numM (D i))[j]'(by rw [hlen]; exact hj) = f := by simp [hf]
        rw [e]
        rw [add_plain', add_plain'] at c0
        intro i u hu
        match i, hu with
        | 0, hu => simp [ic] at hu; subst hu; exact c0
        | i + 1, hu => simp [ic] at hu
    · intro f hf
      obtain ⟨i, hi', rfl⟩ := List.mem_map.1 hf
      obtain ⟨f, h1, h2, _⟩ := each i (by have := List.mem_range.1 hi'; omega)
      rw [h1]; exact h2

set_option maxRecDepth 100000 in
/-- Changes that came in. -/
theorem incs_open {H : Type} {enc : TypeId × Value → H} {W : World} {r : Reach} {base : Nat} {v : Value} {d : DataW H} {p : List MemPlace}
    (hval : Value.okWide Try.prog W r base 78 v) (h : DataW.Trod enc Try.prog W 0 (fun _ => true) true 78 v d p) :
    ∃ cs : List IncV, Sl IncV.cells 8 W v cs ∧ CapM v cs.length := by
  obtain ⟨a0, len, cap, rfl⟩ := okWide_slice Try.underlying78 hval
  obtain ⟨fuel, hf⟩ := h
  rcases Deep.open_slice Try.underlying78 hf with ⟨hcs, hx⟩ | ⟨a, len', cap', m, n, D, Pl, hcs, _, hl, hcap, hm, hx, hi⟩
  · simp [Value.cells] at hcs
    obtain ⟨rfl, rfl, rfl⟩ := hcs
    exact ⟨[], Sl.nil _, ⟨_, _, rfl, Nat.le_refl _, by omega⟩⟩
  · simp [Value.cells] at hcs
    obtain ⟨rfl, rfl, rfl⟩ := hcs
    simp only [if_true] at hm
    subst hm
    have each : ∀ i, i < m → ∃ c : IncV, ∀ j, j < 8 → W.cell? ((a.add (i * 8)).add j) = (IncV.cells c)[j]? := by
      intro i him
      obtain ⟨cs', hc, ht⟩ := hi i him
      rw [incCells.1] at hc
      obtain ⟨c, rfl, -⟩ := inc_cells ht
      exact ⟨c, (World.cells?_some hc).2.2⟩
    have hch : ∃ f : Nat → IncV, ∀ i, i < m → ∀ j, j < 8 → W.cell? ((a.add (i * 8)).add j) = (IncV.cells (f i))[j]? :=
      ⟨fun i => if h : i < m then (each i h).choose else ⟨0, 0, 0, 0, ⟨0, 0, 0, 0⟩⟩, fun i him => by simp only [him, dif_pos]; exact (each i him).choose_spec⟩
    obtain ⟨f, hf⟩ := hch
    have hlen : ((List.range len).map f).length = len := by simp
    refine ⟨(List.range len).map f, ⟨by rw [hlen]; unfold maxLen at hcap; omega, some a, m, by rw [hlen], (fun h => by cases h), fun hp => ?_⟩, ⟨_, _, by rw [hlen], by rw [hlen]; omega, by unfold maxLen at hcap; omega⟩⟩
    rw [hlen] at hp
    obtain ⟨b, off, spot⟩ := a
    have c0 := hf 0 (by omega) 0 (by omega)
    have c0' : W.cell? (((⟨b, off, spot⟩ : Addr).add (0 * 8)).add 0) = some (.int .i64 (f 0).kind) := c0
    obtain rfl : spot = none := by simpa [Addr.add] using World.cell?_spot c0'
    refine ⟨b, off, rfl, ?_, ?_⟩
    · have := cell?_lt c0'
      simpa [Addr.add] using this
    · intro j hj i u hu
      rw [hlen] at hj
      have e : ((List.range len).map f)[j]'(by rw [hlen]; exact hj) = f j := by simp
      rw [e] at hu
      have hi8 : i < 8 := (List.getElem?_eq_some_iff.1 hu).1
      have := hf j (by omega) i hi8
      rw [add_plain', add_plain', hu] at this
      exact this
end Go.Proofs.Ytcofmfjhgbihkaa.crush
