/- Flights that came in, opened. -/
import Derived.Test.YtalnmbfmfeaohaaGreatRows
import Derived.Test.YtalnmbfmfeaohaaGreatLift
import Derived.Test.YtalnmbfmfeaohaaGreatFlightPick
import Derived.Test.YtalnmbfmfeaohaaGreatFlightSame
import Derived.Deep.Slices
import Derived.Deep.Fields
namespace Go.Proofs.YtalnmbfmfeaohaaGreat.flight
open Go.ChangeShapes Go.WideShapes Go.ChangeAt Go.RowKit
open Go.Proofs.YtalnmbfmfeaohaaGreat.kit Go.Proofs.YtalnmbfmfeaohaaGreat.own Go.Proofs.YtalnmbfmfeaohaaGreat.lift
set_option linter.unusedVariables false

theorem ownKn : ownKnob Tryz.prog.godebug = none := by kernel_rfl
theorem weight {H : Type} {P : Program} {ts : List TypeId} {ds : List (DataW H)} (h : (DataW.weightsEach P ts ds).all (· ≤ reachBytes) = true) {j : Nat} {t : TypeId} {d : DataW H} (ht : ts[j]? = some t) (hd : ds[j]? = some d) : ∀ n ∈ d.weights P t, n ≤ reachBytes := by
  intro n hn
  have := List.all_eq_true.1 h _ (DataW.weights_mem_each ht hd n hn)
  simpa using this
theorem list2 {α : Type} : ∀ (l : List α), l.length = 2 → ∃ a b, l = [a, b]
  | [a, b], _ => ⟨a, b, rfl⟩
theorem list3 {α : Type} : ∀ (l : List α), l.length = 3 → ∃ a b c, l = [a, b, c]
  | [a, b, c], _ => ⟨a, b, c, rfl⟩
theorem list4 {α : Type} : ∀ (l : List α), l.length = 4 → ∃ a b c d, l = [a, b, c, d]
  | [a, b, c, d], _ => ⟨a, b, c, d, rfl⟩
theorem cellsAll : Tryz.prog.cellsOf 38 = 4 ∧ Tryz.prog.cellsOf 40 = 2 ∧ Tryz.prog.cellsOf 25 = 3 ∧ Tryz.prog.cellsOf 3 = 1 ∧ Tryz.prog.cellsOf 2 = 1 ∧ Tryz.prog.cellsOf 9 = 1 ∧ Tryz.prog.cellsOf 22 = 1 ∧ Tryz.prog.cellsOf 23 = 1 :=
  ⟨by kernel_rfl, by kernel_rfl, by kernel_rfl, by kernel_rfl, by kernel_rfl, by kernel_rfl, by kernel_rfl, by kernel_rfl⟩
theorem bFrm : Tryz.prog.bytesOf 38 = 40 := by kernel_rfl
theorem bWay : Tryz.prog.bytesOf 40 = 16 := by kernel_rfl
theorem i64_of {z : Int} (h : (Lit.int .i64 z).wf = true) : I64 z := by
  unfold I64
  simpa [Lit.wf, IntKind.min, IntKind.max, IntKind.signed, IntKind.bits] using h

theorem frm_open {H : Type} {enc : TypeId × Value → H} {W : World} {base n : Nat} {sp : Nat → Bool} {held : Bool} {a : Addr} {cs : List Value} {d : DataW H} {p : List MemPlace}
    (hc : W.cells? base a 4 = some cs) (h : DataW.trod enc Tryz.prog W base sp held n 38 cs = some (d, p)) :
    ∃ f : Frm, f.Ok ∧ (∀ j, j < 4 → W.cell? (a.add j) = cs[j]?) ∧ cs = fc f := by
  obtain ⟨xs, n', hn, hx, hlen, hxs, hg⟩ := DataW.trod_struct Tryz.underlying38 h
  obtain ⟨e4, -, -, e1, e2, e3, -, -⟩ := cellsAll
  rw [e4] at hlen
  have hxs' : xs.length = 4 := hxs
  obtain ⟨c0, c1, c2, c3, rfl⟩ := list4 cs hlen
  obtain ⟨y0, y1, y2, y3, rfl⟩ := list4 xs hxs'
  have q0 : DataW.trod enc Tryz.prog W base sp held n' 2 (List.take (Tryz.prog.cellsOf 2) (List.drop 0 [c0, c1, c2, c3])) = some y0 := hg 0 _ rfl
  rw [e2] at q0
  have g0 : DataW.trod enc Tryz.prog W base sp held n' 2 [c0] = some y0 := q0
  have q1 : DataW.trod enc Tryz.prog W base sp held n' 3 (List.take (Tryz.prog.cellsOf 3) (List.drop 1 [c0, c1, c2, c3])) = some y1 := hg 1 _ rfl
  rw [e1] at q1
  have g1 : DataW.trod enc Tryz.prog W base sp held n' 3 [c1] = some y1 := q1
  have q2 : DataW.trod enc Tryz.prog W base sp held n' 3 (List.take (Tryz.prog.cellsOf 3) (List.drop 2 [c0, c1, c2, c3])) = some y2 := hg 2 _ rfl
  rw [e1] at q2
  have g2 : DataW.trod enc Tryz.prog W base sp held n' 3 [c2] = some y2 := q2
  have q3 : DataW.trod enc Tryz.prog W base sp held n' 9 (List.take (Tryz.prog.cellsOf 9) (List.drop 3 [c0, c1, c2, c3])) = some y3 := hg 3 _ rfl
  rw [e3] at q3
  have g3 : DataW.trod enc Tryz.prog W base sp held n' 9 [c3] = some y3 := q3
  clear hg hxs hxs' hlen
  obtain ⟨z0, hz0, rfl, hw0⟩ := DataW.trod_int Tryz.underlying2 g0
  obtain ⟨z1, hz1, rfl, hw1⟩ := DataW.trod_int Tryz.underlying3 g1
  obtain ⟨z2, hz2, rfl, hw2⟩ := DataW.trod_int Tryz.underlying3 g2
  obtain ⟨z3, hz3, rfl, hw3⟩ := DataW.trod_string Tryz.underlying9 g3
  cases hz0; cases hz1; cases hz2; cases hz3
  exact ⟨⟨z0, z1, z2, z3⟩, ⟨i64_of hw0, i64_of hw1, i64_of hw2⟩, (World.cells?_some hc).2.2, rfl⟩

theorem way_open {H : Type} {enc : TypeId × Value → H} {W : World} {base n : Nat} {sp : Nat → Bool} {held : Bool} {a : Addr} {cs : List Value} {d : DataW H} {p : List MemPlace}
    (hc : W.cells? base a 2 = some cs) (h : DataW.trod enc Tryz.prog W base sp held n 40 cs = some (d, p)) :
    ∃ f : Wy, f.Ok ∧ (∀ j, j < 2 → W.cell? (a.add j) = cs[j]?) ∧ cs = wc f := by
  obtain ⟨xs, n', hn, hx, hlen, hxs, hg⟩ := DataW.trod_struct Tryz.underlying40 h
  obtain ⟨-, e4, -, e1, -, -, -, -⟩ := cellsAll
  rw [e4] at hlen
  have hxs' : xs.length = 2 := hxs
  obtain ⟨c0, c1, rfl⟩ := list2 cs hlen
  obtain ⟨y0, y1, rfl⟩ := list2 xs hxs'
  have q0 : DataW.trod enc Tryz.prog W base sp held n' 3 (List.take (Tryz.prog.cellsOf 3) (List.drop 0 [c0, c1])) = some y0 := hg 0 _ rfl
  rw [e1] at q0
  have g0 : DataW.trod enc Tryz.prog W base sp held n' 3 [c0] = some y0 := q0
  have q1 : DataW.trod enc Tryz.prog W base sp held n' 3 (List.take (Tryz.prog.cellsOf 3) (List.drop 1 [c0, c1])) = some y1 := hg 1 _ rfl
  rw [e1] at q1
  have g1 : DataW.trod enc Tryz.prog W base sp held n' 3 [c1] = some y1 := q1
  clear hg hxs hxs' hlen
  obtain ⟨z0, hz0, rfl, hw0⟩ := DataW.trod_int Tryz.underlying3 g0
  obtain ⟨z1, hz1, rfl, hw1⟩ := DataW.trod_int Tryz.underlying3 g1
  cases hz0; cases hz1
  exact ⟨(z0, z1), ⟨i64_of hw0, i64_of hw1⟩, (World.cells?_some hc).2.2, rfl⟩

/-- A slice of rows of k cells, opened. -/
theorem rows_cells {H : Type} {enc : TypeId × Value → H} {α : Type} (ec : α → List Value) (Ok : α → Prop) (k t te bb : Nat) (hk0 : 0 < k) (hbb : 0 < bb) (hk : ∀ x, (ec x).length = k) (ht : Tryz.prog.underlying t = some (.slice te)) (hce : Tryz.prog.cellsOf te = k) (hby : Tryz.prog.bytesOf te = bb)
    {W : World} {n : Nat} {cs : List Value} {x : DataW H × List MemPlace}
    (op : ∀ (a : Addr) (c : List Value) (d : DataW H) (p : List MemPlace) (n' : Nat), W.cells? 0 a k = some c → DataW.trod enc Tryz.prog W 0 (fun _ => true) true n' te c = some (d, p) → ∃ f : α, Ok f ∧ (∀ j, j < k → W.cell? (a.add j) = c[j]?) ∧ c = ec f)
    (h : DataW.trod enc Tryz.prog W 0 (fun _ => true) true n t cs = some x) (hz : ∀ m ∈ x.1.weights Tryz.prog t, m ≤ reachBytes) :
    ∃ v fs, cs = [v] ∧ Sl ec k W v fs ∧ (∀ f ∈ fs, Ok f) ∧ fs.length * bb ≤ 140737488355328 := by
  rcases Deep.open_slice ht h with ⟨hcs, hx⟩ | ⟨a, len, cap, m, n2, D, Pl, hcs, _, hl, hcap, hm, hx, hi⟩
  · exact ⟨_, [], hcs, Sl.nil _, by simp, by simp⟩
  · simp only [if_true] at hm
    subst hm
    have each : ∀ i, i < m → ∃ f : α, Ok f ∧ ∀ j u, (ec f)[j]? = some u → W.cell? ((a.add (i * k)).add j) = some u := by
      intro i him
      obtain ⟨cs', hc, ht'⟩ := hi i him
      rw [hce] at hc
      obtain ⟨f, h1, h2, rfl⟩ := op _ _ _ _ _ hc ht'
      refine ⟨f, h1, fun j u hu => ?_⟩
      have hj : j < k := by have := (List.getElem?_eq_some_iff.1 hu).1; rwa [hk] at this
      rw [h2 j hj]; exact hu
    have hb47 : len * bb ≤ 140737488355328 := by
      have hx1 := congrArg Prod.fst hx
      simp only at hx1
      rw [hx1] at hz
      have h1 := hz (((List.map D (List.range len)).length + (List.map (fun j => D (len + j)) (List.range (m - len))).length) * Tryz.prog.bytesOf te) (by simp [DataW.weights, ht])
      rw [hby] at h1
      simp only [List.length_map, List.length_range] at h1
      unfold reachBytes at h1
      have h2 : len * bb ≤ (len + (m - len)) * bb := Nat.mul_le_mul_right bb (by omega)
      omega
    let fs : List α := (List.range len).pmap (fun i hi => (each i hi).choose) (fun i hi => by have := List.mem_range.1 hi; omega)
    have hlen : fs.length = len := by simp [fs]
    have hget : ∀ j (hj : j < fs.length), ∃ hj' : j < m, fs[j] = (each j hj').choose := by
      intro j hj
      refine ⟨by omega, ?_⟩
      simp [fs]
    refine ⟨_, fs, hcs, ⟨by rw [hlen]; unfold maxLen at hcap; omega, some a, m, by rw [hlen], (fun h => by cases h), fun hp => ?_⟩, ?_, by rw [hlen]; exact hb47⟩
    · rw [hlen] at hp
      obtain ⟨b, off, spot⟩ := a
      obtain ⟨f0, _, c0⟩ := each 0 (by omega)
      have hl0 : 0 < (ec f0).length := by rw [hk]; exact hk0
      have c00 := c0 0 (ec f0)[0] (by simp [hl0])
      obtain rfl : spot = none := by simpa [Addr.add] using World.cell?_spot c00
      refine ⟨b, off, rfl, ?_, ?_⟩
      · have := cell?_lt c00
        simpa [Addr.add] using this
      · intro j hj i u hu
        obtain ⟨hj', he⟩ := hget j hj
        rw [he] at hu
        have := (each j hj').choose_spec.2 i u hu
        rw [add_plain', add_plain'] at this
        exact this
    · intro f hf
      obtain ⟨j, hj, rfl⟩ := List.getElem_of_mem hf
      obtain ⟨hj', he⟩ := hget j hj
      rw [he]
      exact (each j hj').choose_spec.1

set_option maxRecDepth 100000 in
/-- A flight that came in. -/
theorem flt_open {H : Type} {enc : TypeId × Value → H} {W : World} {r : Reach} {base : Nat} {v : Value} {d : DataW H} {p : List MemPlace}
    (hval : Value.okWide Tryz.prog W r base 25 v) (h : DataW.Trod enc Tryz.prog W 0 (fun _ => true) true 25 v d p) (hz : ∀ n ∈ d.weights Tryz.prog 25, n ≤ reachBytes) :
    ∃ f : Flt, FlR W v f ∧ I64 f.next ∧ (∀ x ∈ f.list, Frm.Ok x) ∧ (∀ y ∈ f.cut, Wy.Ok y) ∧ f.list.length * 40 ≤ 140737488355328 ∧ f.cut.length * 16 ≤ 140737488355328 := by
  obtain ⟨cs, rfl, _⟩ := okWide_struct Tryz.underlying25 hval
  obtain ⟨fuel, hf⟩ := h
  obtain ⟨xs, n', hn, hx, hlen, hxs, hg⟩ := DataW.trod_struct Tryz.underlying25 hf
  obtain ⟨e4, e2, e3, e1, e1', -, s1, s2⟩ := cellsAll
  rw [e3] at hlen
  have hxs' : xs.length = 3 := hxs
  have hlen' : cs.toList.length = 3 := hlen
  obtain ⟨c0, c1, c2, hcs⟩ := list3 cs.toList hlen'
  obtain rfl : cs = #[c0, c1, c2] := by cases cs; simp_all
  obtain ⟨y0, y1, y2, rfl⟩ := list3 xs hxs'
  have q0 : DataW.trod enc Tryz.prog W 0 (fun _ => true) true n' 2 (List.take (Tryz.prog.cellsOf 2) (List.drop 0 [c0, c1, c2])) = some y0 := hg 0 _ rfl
  rw [e1'] at q0
  have g0 : DataW.trod enc Tryz.prog W 0 (fun _ => true) true n' 2 [c0] = some y0 := q0
  have q1 : DataW.trod enc Tryz.prog W 0 (fun _ => true) true n' 22 (List.take (Tryz.prog.cellsOf 22) (List.drop 1 [c0, c1, c2])) = some y1 := hg 1 _ rfl
  rw [s1] at q1
  have g1 : DataW.trod enc Tryz.prog W 0 (fun _ => true) true n' 22 [c1] = some y1 := q1
  have q2 : DataW.trod enc Tryz.prog W 0 (fun _ => true) true n' 23 (List.take (Tryz.prog.cellsOf 23) (List.drop 2 [c0, c1, c2])) = some y2 := hg 2 _ rfl
  rw [s2] at q2
  have g2 : DataW.trod enc Tryz.prog W 0 (fun _ => true) true n' 23 [c2] = some y2 := q2
  clear hg hxs hxs' hlen hlen' q0 q1 q2
  obtain ⟨rfl, -⟩ : d = _ ∧ p = _ := Prod.mk.inj hx
  have hw : ∀ (j : Nat) t y, [2, 22, 23][j]? = some t → [y0.1, y1.1, y2.1][j]? = some y → ∀ n ∈ y.weights Tryz.prog t, n ≤ reachBytes := by
    intro j t y ht hy n hn
    refine hz n ?_
    have := DataW.weights_mem_each (P := Tryz.prog) (ts := [2, 22, 23]) (ds := [y0.1, y1.1, y2.1]) ht hy n hn
    simpa [DataW.weights, Tryz.underlying25] using this
  obtain ⟨z0, hz0, rfl, hw0⟩ := DataW.trod_int Tryz.underlying2 g0
  cases hz0
  obtain ⟨v1, fs, hv1, hs1, ho1, hl1⟩ := rows_cells fc Frm.Ok 4 22 38 40 (by decide) (by decide) fc_len Tryz.underlying22 e4 bFrm (fun a c d p n' h1 h2 => frm_open h1 h2) g1 (hw 1 _ _ rfl rfl)
  obtain ⟨v2, ws, hv2, hs2, ho2, hl2⟩ := rows_cells wc Wy.Ok 2 23 40 16 (by decide) (by decide) wc_len Tryz.underlying23 e2 bWay (fun a c d p n' h1 h2 => way_open h1 h2) g2 (hw 2 _ _ rfl rfl)
  cases hv1; cases hv2
  exact ⟨⟨z0, fs, ws⟩, ⟨c1, c2, rfl, hs1, hs2⟩, i64_of hw0, ho1, ho2, hl1, hl2⟩

end Go.Proofs.YtalnmbfmfeaohaaGreat.flight
