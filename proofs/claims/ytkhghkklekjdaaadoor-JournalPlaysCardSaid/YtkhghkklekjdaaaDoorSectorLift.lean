/- What came in, opened: bytes, rows of bytes, acts. -/
import Derived.Test.YtkhghkklekjdaaaDoorRows
import Derived.Test.YtkhghkklekjdaaaDoorLift
import Derived.Test.YtkhghkklekjdaaaDoorSectorAwake
import Derived.Deep.Slices
import Derived.Deep.Fields
namespace Go.Proofs.YtkhghkklekjdaaaDoor.sector
open Go.ChangeShapes Go.WideShapes Go.ChangeAt Go.RowKit
open Go.Proofs.YtkhghkklekjdaaaDoor.kit Go.Proofs.YtkhghkklekjdaaaDoor.own Go.Proofs.YtkhghkklekjdaaaDoor.lift
set_option linter.unusedVariables false

theorem own : ownKnob Tryd.prog.godebug = none := by kernel_rfl
theorem laidOut : laidOutB Tryd.prog = true := by kernel_rfl
theorem cu8 : Tryd.prog.cellsOf 5 = 1 := by kernel_rfl
theorem cBytes : Tryd.prog.cellsOf 22 = 1 := by kernel_rfl
theorem bBytes : Tryd.prog.bytesOf 22 = 24 := by kernel_rfl
/-- Bytes that lie in an old block. -/
structure Byt (W : World) (v : Value) (ns : List Nat) : Prop where
  read : SlI W .u8 v ns
  lt : ∀ n ∈ ns, n < 256
  old : ∀ b off n c, v = .slice (some ⟨b, off, none⟩) n c → 0 < n → b < W.heap.size
  none : ∀ n c, v = .slice none n c → c = 0
theorem Byt.keep {W W' : World} {v : Value} {ns : List Nat} (h : Byt W v ns) (hb : Below W.heap.size W W') : Byt W' v ns :=
  ⟨h.read.keep hb, h.lt, fun b off n c e h0 => Nat.lt_of_lt_of_le (h.old b off n c e h0) hb.size, h.none⟩

theorem bytes_cells {H : Type} {enc : TypeId × Value → H} {W : World} {n : Nat} {cs : List Value} {x : DataW H × List MemPlace}
    (h : DataW.trod enc Tryd.prog W 0 (fun _ => true) true n 22 cs = some x) : ∃ v ns, cs = [v] ∧ Byt W v ns := by
  have h0 := fun n h => (u8_pos n h).1
  rcases open_ints Tryd.underlying22 Tryd.underlying5 cu8 h with ⟨hcs, hx⟩ | ⟨a, len', cap', zs, hcs, _, hl, hm, hzl, hx, hcell, hwz⟩
  · exact ⟨_, [], hcs, SlI.nil _ _, by simp, fun b off n c e => (by cases e), fun n c e => (by cases e; rfl)⟩
  · simp only [if_true] at hzl
    refine ⟨_, (zs.take len').map Int.toNat, hcs, SlI.of_open hm hl hzl hcell hwz h0, ?_, ?_, fun n c e => (by cases e)⟩
    · intro n hn
      obtain ⟨z, hz1, rfl⟩ := List.mem_map.1 hn
      have := u8_pos z (hwz z (List.mem_of_mem_take hz1))
      omega
    · intro b off n c e hp
      cases e
      have := cell?_lt (hcell 0 (by omega))
      simpa [Addr.add] using this

set_option maxRecDepth 100000 in
theorem bytes_open {H : Type} {enc : TypeId × Value → H} {W : World} {v : Value} {d : DataW H} {p : List MemPlace} {r : Reach} {base : Nat}
    (hval : Value.okWide Tryd.prog W r base 22 v) (h : DataW.Trod enc Tryd.prog W 0 (fun _ => true) true 22 v d p) : ∃ ns, Byt W v ns := by
  obtain ⟨a0, len, cap, rfl⟩ := okWide_slice Tryd.underlying22 hval
  obtain ⟨fuel, hf⟩ := h
  obtain ⟨v, ns, hv, hb⟩ := bytes_cells hf
  simp [Value.cells] at hv
  rw [← hv] at hb
  exact ⟨ns, hb⟩

/-- Rows of bytes: how many, their values, what they read as. -/
structure Rws (W : World) (v : Value) (n : Nat) (V : Nat → Value) (N : Nat → List Nat) : Prop where
  shape : n ≤ 140737488355328 ∧ ∃ (a : Option Addr) (cap : Nat), v = .slice a n cap ∧ (0 < n → ∃ b off, a = some ⟨b, off, none⟩ ∧ ∀ j, j < n → W.cell? ⟨b, off + j, none⟩ = some (V j))
  each : ∀ j, j < n → Byt W (V j) (N j)
theorem Rws.keep {W W' : World} {v : Value} {n : Nat} {V : Nat → Value} {N : Nat → List Nat} (h : Rws W v n V N) (hb : Below W.heap.size W W') : Rws W' v n V N := by
  obtain ⟨hn, a, cap, e, hc⟩ := h.shape
  refine ⟨⟨hn, a, cap, e, fun h0 => ?_⟩, fun j hj => (h.each j hj).keep hb⟩
  obtain ⟨b, off, e2, hcell⟩ := hc h0
  exact ⟨b, off, e2, fun j hj => (hb.cell (p := ⟨b, off + j, none⟩) (cell_lt (hcell j hj))).trans (hcell j hj)⟩

theorem weight {H : Type} {P : Program} {ts : List TypeId} {ds : List (DataW H)} (h : (DataW.weightsEach P ts ds).all (· ≤ reachBytes) = true) {j : Nat} {t : TypeId} {d : DataW H} (ht : ts[j]? = some t) (hd : ds[j]? = some d) : ∀ n ∈ d.weights P t, n ≤ reachBytes := by
  intro n hn
  have := List.all_eq_true.1 h _ (DataW.weights_mem_each ht hd n hn)
  simpa using this

/-- An act, as its four cells are. -/
structure ActV where
  kind : Int
  n : Int
  v : Value
  data : List Nat
  pick : Nat
def ActV.Ok (W : World) (a : ActV) : Prop := (-9223372036854775808 ≤ a.n ∧ a.n ≤ 9223372036854775807) ∧ Byt W a.v a.data ∧ a.pick < 18446744073709551616
def ActV.cells (a : ActV) : List Value := [.int .i64 a.kind, .int .i64 a.n, a.v, .int .u64 (a.pick : Nat)]
theorem list4 {α : Type} : ∀ (l : List α), l.length = 4 → ∃ a b c d, l = [a, b, c, d]
  | [a, b, c, d], _ => ⟨a, b, c, d, rfl⟩

end Go.Proofs.YtkhghkklekjdaaaDoor.sector
