/- What came in, opened: bytes, rows of bytes, acts. -/
import Derived.Test.YtmipjhbbbpcdlaaRows
import Derived.Test.YtmipjhbbbpcdlaaLift
import Derived.Test.YtmipjhbbbpcdlaaSectorAwake
import Derived.Deep.Slices
import Derived.Deep.Fields
namespace Go.Proofs.Ytmipjhbbbpcdlaa.sector
open Go.ChangeShapes Go.WideShapes Go.ChangeAt Go.RowKit
open Go.Proofs.Ytmipjhbbbpcdlaa.kit Go.Proofs.Ytmipjhbbbpcdlaa.own Go.Proofs.Ytmipjhbbbpcdlaa.lift
set_option linter.unusedVariables false

theorem own : ownKnob Try.prog.godebug = none := by kernel_rfl
theorem laidOut : laidOutB Try.prog = true := by kernel_rfl
theorem cu8 : Try.prog.cellsOf 5 = 1 := by kernel_rfl
theorem cBytes : Try.prog.cellsOf 28 = 1 := by kernel_rfl
theorem bBytes : Try.prog.bytesOf 28 = 24 := by kernel_rfl
theorem cAct : Try.prog.cellsOf 31 = 4 ∧ Try.prog.cellsOf 3 = 1 ∧ Try.prog.cellsOf 29 = 1 := ⟨by kernel_rfl, by kernel_rfl, by kernel_rfl⟩

/-- Bytes that lie in an old block. -/
structure Byt (W : World) (v : Value) (ns : List Nat) : Prop where
  read : SlI W .u8 v ns
  lt : ∀ n ∈ ns, n < 256
  old : ∀ b off n c, v = .slice (some ⟨b, off, none⟩) n c → 0 < n → b < W.heap.size
  none : ∀ n c, v = .slice none n c → c = 0
theorem Byt.keep {W W' : World} {v : Value} {ns : List Nat} (h : Byt W v ns) (hb : Below W.heap.size W W') : Byt W' v ns :=
  ⟨h.read.keep hb, h.lt, fun b off n c e h0 => Nat.lt_of_lt_of_le (h.old b off n c e h0) hb.size, h.none⟩

theorem bytes_cells {H : Type} {enc : TypeId × Value → H} {W : World} {n : Nat} {cs : List Value} {x : DataW H × List MemPlace}
    (h : DataW.trod enc Try.prog W 0 (fun _ => true) true n 28 cs = some x) : ∃ v ns, cs = [v] ∧ Byt W v ns := by
  have h0 := fun n h => (u8_pos n h).1
  rcases open_ints Try.underlying28 Try.underlying5 cu8 h with ⟨hcs, hx⟩ | ⟨a, len', cap', zs, hcs, _, hl, hm, hzl, hx, hcell, hwz⟩
  · exact ⟨_, [], hcs, SlI.nil _ _, by simp, fun b off n c e => (by cases e), fun n c e => (by cases e; rfl)⟩
  · simp only [if_true] at hzl
    refine ⟨_, (zs.take len').map Int.toNat, hcs, SlI.of_open hm hl hzl hcell hwz h0, ?_, ?_, fun n c e => (by cases e)⟩
    · intro n hn
      obtain ⟨z, hz1, rfl⟩ := List.mem_map.1 hn
      have := u8_pos z (hwz z (List.mem_of_mem_take hz1))
      omega
    · intro b off n c e hp
      cases e
      have := cell?_lt (hcell 0 (by omega))
      simpa [Addr.add] using this

theorem bytes_open {H : Type} {enc : TypeId × Value → H} {W : World} {v : Value} {d : DataW H} {p : List MemPlace} {r : Reach} {base : Nat}
    (hval : Value.okWide Try.prog W r base 28 v) (h : DataW.Trod enc Try.prog W 0 (fun _ => true) true 28 v d p) : ∃ ns, Byt W v ns := by
  obtain ⟨a0, len, cap, rfl⟩ := okWide_slice Try.underlying28 hval
  obtain ⟨fuel, hf⟩ := h
  obtain ⟨v, ns, hv, hb⟩ := bytes_cells hf
  simp [Value.cells] at hv
  rw [← hv] at hb
  exact ⟨ns, hb⟩

/-- Rows of bytes: how many, their values, what they read as. -/
structure Rws (W : World) (v : Value) (n : Nat) (V : Nat → Value) (N : Nat → List Nat) : Prop where
  shape : n ≤ 140737488355328 ∧ ∃ (a : Option Addr) (cap : Nat), v = .slice a n cap ∧ (0 < n → ∃ b off, a = some ⟨b, off, none⟩ ∧ ∀ j, j < n → W.cell? ⟨b, off + j, none⟩ = some (V j))
  each : ∀ j, j < n → Byt W (V j) (N j)
theorem Rws.keep {W W' : World} {v : Value} {n : Nat} {V : Nat → Value} {N : Nat → List Nat} (h : Rws W v n V N) (hb : Below W.heap.size W W') : Rws W' v n V N := by
  obtain ⟨hn, a, cap, e, hc⟩ := h.shape
  refine ⟨⟨hn, a, cap, e, fun h0 => ?_⟩, fun j hj => (h.each j hj).keep hb⟩
  obtain ⟨b, off, e2, hcell⟩ := hc h0
  exact ⟨b, off, e2, fun j hj => (hb.cell (p := ⟨b, off + j, none⟩) (cell_lt (hcell j hj))).trans (hcell j hj)⟩

set_option maxRecDepth 100000 in
theorem rows_open {H : Type} {enc : TypeId × Value → H} {W : World} {v : Value} {d : DataW H} {p : List MemPlace} {r : Reach} {base : Nat}
    (hval : Value.okWide Try.prog W r base 39 v) (h : DataW.Trod enc Try.prog W 0 (fun _ => true) true 39 v d p) (hz : ∀ n ∈ d.weights Try.prog 39, n ≤ reachBytes) : ∃ n V N, Rws W v n V N := by
  obtain ⟨a0, len, cap, rfl⟩ := okWide_slice Try.underlying39 hval
  obtain ⟨fuel, hf⟩ := h
  rcases Deep.open_slice Try.underlying39 hf with ⟨hcs, hx⟩ | ⟨a, len', cap', m, n, D, Pl, hcs, _, hl, hcap, hm, hx, hi⟩
  · simp [Value.cells] at hcs
    obtain ⟨rfl, rfl, rfl⟩ := hcs
    exact ⟨0, fun _ => undef, fun _ => [], ⟨by omega, none, 0, rfl, fun h => by omega⟩, fun j hj => by omega⟩
  · simp [Value.cells] at hcs
    obtain ⟨rfl, rfl, rfl⟩ := hcs
    simp only [if_true] at hm
    subst hm
    have each : ∀ i, i < m → ∃ (v : Value) (ns : List Nat), W.cell? (a.add i) = some v ∧ Byt W v ns := by
      intro i him
      obtain ⟨cs', hc, ht⟩ := hi i him
      rw [cBytes] at hc
      obtain ⟨v, ns, rfl, hb⟩ := bytes_cells ht
      have := (World.cells?_some hc).2.2 0 (by omega)
      rw [Nat.mul_one] at this
      refine ⟨v, ns, ?_, hb⟩
      rw [show a.add i = (a.add i).add 0 by simp [Addr.add]]
      exact this
    have hb47 : len ≤ 140737488355328 := by
      obtain ⟨rfl, rfl⟩ := Prod.mk.inj hx
      have h1 := hz (((List.map D (List.range len)).length + (List.map (fun j => D (len + j)) (List.range (m - len))).length) * Try.prog.bytesOf 28) (by simp [DataW.weights, Try.underlying39])
      rw [bBytes] at h1
      simp only [List.length_map, List.length_range] at h1
      unfold reachBytes at h1
      omega
    refine ⟨len, fun j => if h : j < m then (each j h).choose else undef, fun j => if h : j < m then (each j h).choose_spec.choose else [], ⟨hb47, some a, m, rfl, fun h0 => ?_⟩, fun j hj => ?_⟩
    · obtain ⟨b, off, spot⟩ := a
      obtain ⟨v0, _, c0, _⟩ := each 0 (by omega)
      obtain rfl : spot = none := by simpa [Addr.add] using World.cell?_spot c0
      refine ⟨b, off, rfl, fun j hj => ?_⟩
      have hjm : j < m := by omega
      have := (each j hjm).choose_spec.choose_spec.1
      simp only [hjm, dif_pos]
      exact (congrArg W.cell? (add_plain' b off j)).symm.trans this
    · have hjm : j < m := by omega
      simp only [hjm, dif_pos]
      exact (each j hjm).choose_spec.choose_spec.2

theorem weight {H : Type} {P : Program} {ts : List TypeId} {ds : List (DataW H)} (h : (DataW.weightsEach P ts ds).all (· ≤ reachBytes) = true) {j : Nat} {t : TypeId} {d : DataW H} (ht : ts[j]? = some t) (hd : ds[j]? = some d) : ∀ n ∈ d.weights P t, n ≤ reachBytes := by
  intro n hn
  have := List.all_eq_true.1 h _ (DataW.weights_mem_each ht hd n hn)
  simpa using this

/-- An act, as its four cells are. -/
structure ActV where
  kind : Int
  n : Int
  v : Value
  data : List Nat
  pick : Nat
def ActV.Ok (W : World) (a : ActV) : Prop := (-9223372036854775808 ≤ a.n ∧ a.n ≤ 9223372036854775807) ∧ Byt W a.v a.data ∧ a.pick < 18446744073709551616
def ActV.cells (a : ActV) : List Value := [.int .i64 a.kind, .int .i64 a.n, a.v, .int .u64 (a.pick : Nat)]
theorem list4 {α : Type} : ∀ (l : List α), l.length = 4 → ∃ a b c d, l = [a, b, c, d]
  | [a, b, c, d], _ => ⟨a, b, c, d, rfl⟩

theorem act_cells {H : Type} {enc : TypeId × Value → H} {W : World} {n : Nat} {cs : List Value} {x : DataW H × List MemPlace}
    (h : DataW.trod enc Try.prog W 0 (fun _ => true) true n 31 cs = some x) : ∃ a : ActV, cs = a.cells ∧ a.Ok W := by
  obtain ⟨xs, n', hn, hx, hlen, hxs, hg⟩ := DataW.trod_struct Try.underlying31 h
  obtain ⟨e4, e1, e2⟩ := cAct
  rw [e4] at hlen
  have hxs' : xs.length = 4 := hxs
  obtain ⟨c0, c1, c2, c3, rfl⟩ := list4 cs hlen
  obtain ⟨y0, y1, y2, y3, rfl⟩ := list4 xs hxs'
  have q0 : DataW.trod enc Try.prog W 0 (fun _ => true) true n' 3 (List.take (Try.prog.cellsOf 3) (List.drop 0 [c0, c1, c2, c3])) = some y0 := hg 0 _ rfl
  rw [e1] at q0
  have g0 : DataW.trod enc Try.prog W 0 (fun _ => true) true n' 3 [c0] = some y0 := q0
  have q1 : DataW.trod enc Try.prog W 0 (fun _ => true) true n' 3 (List.take (Try.prog.cellsOf 3) (List.drop 1 [c0, c1, c2, c3])) = some y1 := hg 1 _ rfl
  rw [e1] at q1
  have g1 : DataW.trod enc Try.prog W 0 (fun _ => true) true n' 3 [c1] = some y1 := q1
  have q2 : DataW.trod enc Try.prog W 0 (fun _ => true) true n' 28 (List.take (Try.prog.cellsOf 28) (List.drop 2 [c0, c1, c2, c3])) = some y2 := hg 2 _ rfl
  rw [cBytes] at q2
  have g2 : DataW.trod enc Try.prog W 0 (fun _ => true) true n' 28 [c2] = some y2 := q2
  have q3 : DataW.trod enc Try.prog W 0 (fun _ => true) true n' 29 (List.take (Try.prog.cellsOf 29) (List.drop 3 [c0, c1, c2, c3])) = some y3 := hg 3 _ rfl
  rw [e2] at q3
  have g3 : DataW.trod enc Try.prog W 0 (fun _ => true) true n' 29 [c3] = some y3 := q3
  clear hg hxs hxs' hlen
  obtain ⟨z0, hz0, rfl, hw0⟩ := DataW.trod_int Try.underlying3 g0
  obtain ⟨z1, hz1, rfl, hw1⟩ := DataW.trod_int Try.underlying3 g1
  obtain ⟨v2, ns, hv2, hb2⟩ := bytes_cells g2
  obtain ⟨z3, hz3, rfl, hw3⟩ := DataW.trod_int Try.underlying29 g3
  cases hz0; cases hz1; cases hv2; cases hz3
  have h3 := u64_pos z3 hw3
  obtain ⟨p3, rfl⟩ := Int.eq_ofNat_of_zero_le h3.1
  refine ⟨⟨z0, z1, c2, ns, p3⟩, rfl, ?_, hb2, by show p3 < _; omega⟩
  simpa [Lit.wf, IntKind.min, IntKind.max, IntKind.signed, IntKind.bits] using hw1

theorem act_open {H : Type} {enc : TypeId × Value → H} {W : World} {v : Value} {d : DataW H} {p : List MemPlace} {r : Reach} {base : Nat}
    (hval : Value.okWide Try.prog W r base 31 v) (h : DataW.Trod enc Try.prog W 0 (fun _ => true) true 31 v d p) : ∃ a : ActV, v = .agg a.cells.toArray ∧ a.Ok W := by
  obtain ⟨cs, rfl, _⟩ := okWide_struct Try.underlying31 hval
  obtain ⟨fuel, hf⟩ := h
  obtain ⟨a, ha, hok⟩ := act_cells hf
  refine ⟨a, ?_, hok⟩
  have : cs.toList = a.cells := ha
  rw [← this]

end Go.Proofs.Ytmipjhbbbpcdlaa.sector
