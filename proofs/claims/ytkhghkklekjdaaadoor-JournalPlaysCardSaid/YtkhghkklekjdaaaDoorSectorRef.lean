/- The document's device: where it lies; its smallest functions. -/
import Derived.Test.YtkhghkklekjdaaaDoorRows
import Derived.Test.YtkhghkklekjdaaaDoorSectorWallM
namespace Go.Proofs.YtkhghkklekjdaaaDoor.sector
open Go.RowKit
open Go.Proofs.YtkhghkklekjdaaaDoor.kit Go.Proofs.YtkhghkklekjdaaaDoor.own
set_option linter.unusedVariables false

/-- The cells of a cache of the document's: a number and a text each. -/
def slots (c : List (Nat × List Nat)) : List Value := c.flatMap fun p => [.int .i64 (p.1 : Nat), .string (strN p.2)]
def leftI (m : Dev) : Int := match m.cut with | some p => (p.1 : Nat) | none => -1
def rCells (m : Dev) (vd vc : Value) (pk : Nat) : Array Value := #[.bool true, vd, vc, .bool (!m.power), .int .i64 (leftI m), .int .u64 (pk : Nat), .int .i64 (m.ws : Nat), .int .i64 (m.fs : Nat)]
structure RLies (w : World) (Z : Nat → Prop) (d : Nat) (m : Dev) (vd vc : Value) (pk : Nat) : Prop where
  box : w.heap[d]? = some (.cells (rCells m vd vc pk) 73 (0, 0))
  down : OwnI w 0 5 .u8 vd m.laid
  cache : w.ownsRow 0 112 2 vc m.cache.length (slots m.cache)
  pick : ∀ p, m.cut = some p → pk = p.2
  zd : Z d
  zo : ∀ g, vd.ownBlock = some g → Z g
  zc : ∀ g, vc.ownBlock = some g → Z g
  zlt : ∀ k, Z k → k < w.heap.size
def RAt (w : World) (Z : Nat → Prop) (d : Nat) (m : Dev) : Prop := m.Ok ∧ ∃ vd vc pk, RLies w Z d m vd vc pk

theorem RLies.stays {w w' : World} {Z : Nat → Prop} {d : Nat} {m : Dev} {vd vc : Value} {pk : Nat} (h : RLies w Z d m vd vc pk) (hs : ∀ k, Z k → w'.heap[k]? = w.heap[k]?) (hz : w.heap.size ≤ w'.heap.size) : RLies w' Z d m vd vc pk :=
  ⟨(hs d h.zd).trans h.box, own_stays h.down (fun g hg => hs g (h.zo g hg)), own_stays h.cache (fun g hg => hs g (h.zc g hg)), h.pick, h.zd, h.zo, h.zc, fun k hk => Nat.lt_of_lt_of_le (h.zlt k hk) hz⟩
theorem RAt.stays {w w' : World} {Z : Nat → Prop} {d : Nat} {m : Dev} (h : RAt w Z d m) (hs : ∀ k, Z k → w'.heap[k]? = w.heap[k]?) (hz : w.heap.size ≤ w'.heap.size) : RAt w' Z d m := by
  obtain ⟨ho, vd, vc, pk, hl⟩ := h
  exact ⟨ho, vd, vc, pk, hl.stays hs hz⟩
theorem RAt.keep {w w' : World} {Z : Nat → Prop} {d : Nat} {m : Dev} (h : RAt w Z d m) (hb : Below w.heap.size w w') : RAt w' Z d m := by
  obtain ⟨ho, vd, vc, pk, hl⟩ := h
  exact ⟨ho, vd, vc, pk, hl.stays (fun k hk => hb.block k (hl.zlt k hk)) hb.size⟩
theorem RAt.lt {w : World} {Z : Nat → Prop} {d : Nat} {m : Dev} (h : RAt w Z d m) : ∀ k, Z k → k < w.heap.size := by
  obtain ⟨_, _, _, _, hl⟩ := h
  exact hl.zlt
theorem RLies.cell {w : World} {Z : Nat → Prop} {d : Nat} {m : Dev} {vd vc : Value} {pk : Nat} (h : RLies w Z d m vd vc pk) (j : Nat) : w.cell? ⟨d, j, none⟩ = (rCells m vd vc pk)[j]? := by simp [World.cell?, h.box]
theorem RLies.free {w : World} {Z : Nat → Prop} {d : Nat} {m : Dev} {vd vc : Value} {pk : Nat} (h : RLies w Z d m vd vc pk) (j : Nat) : w.frozen? ⟨d, j, none⟩ = false := by simp [World.frozen?, h.box]
theorem RLies.lt {w : World} {Z : Nat → Prop} {d : Nat} {m : Dev} {vd vc : Value} {pk : Nat} (h : RLies w Z d m vd vc pk) : d < w.heap.size := h.zlt d h.zd
theorem own_any {w : World} {B e size n : Nat} {v : Value} {xs : List Value} (h : w.ownsRow B e size v n xs) : ∃ a cap, v = .slice a n cap := by
  rcases h.2 with ⟨rfl, h0⟩ | ⟨g, cap, cur, rfl, _⟩
  · exact ⟨none, 0, by rw [h0]⟩
  · exact ⟨_, cap, rfl⟩
theorem RLies.vd_len {w : World} {Z : Nat → Prop} {d : Nat} {m : Dev} {vd vc : Value} {pk : Nat} (h : RLies w Z d m vd vc pk) (ho : m.Ok) : ∃ a cap, vd = .slice a (64 * m.n) cap := by
  have := own_any h.down
  rw [ho.laid] at this
  exact this

/-- The device's own cells are turned, nothing else of its. -/
theorem RLies.turn {w w' : World} {Z : Nat → Prop} {d : Nat} {m m' : Dev} {vd vc : Value} {pk pk' : Nat} (h : RLies w Z d m vd vc pk) (hbox : w'.heap[d]? = some (.cells (rCells m' vd vc pk') 73 (0, 0)))
    (hs : ∀ k, k ≠ d → w'.heap[k]? = w.heap[k]?) (hz : w.heap.size ≤ w'.heap.size) (hc : m'.cache = m.cache) (hl : m'.laid = m.laid) (hp : ∀ p, m'.cut = some p → pk' = p.2) : RLies w' Z d m' vd vc pk' := by
  have n1 := own_ne_box h.down h.box (by decide)
  have n2 := own_ne_box h.cache h.box (by decide)
  refine ⟨hbox, ?_, ?_, hp, h.zd, h.zo, h.zc, fun k hk => Nat.lt_of_lt_of_le (h.zlt k hk) hz⟩
  · rw [hl]
    exact own_stays h.down (fun g hg => hs g (fun e => n1 (e ▸ hg)))
  · rw [hc]
    exact own_stays h.cache (fun g hg => hs g (fun e => n2 (e ▸ hg)))

/-- What is answered, and the device behind it. -/
def RDoes (w : World) (Z : Nat → Prop) (d : Nat) (m' : Dev) (x : Ending) (e : Ending) (w' : World) : Prop := e = x ∧ RAt w' (More Z w w') d m' ∧ Turn Z w w'
def RDoes0 (w : World) (Z : Nat → Prop) (d : Nat) (m' : Dev) (x : Ending) (e : Ending) (w' : World) : Prop := e = x ∧ RAt w' Z d m' ∧ Turn Z w w'

set_option maxRecDepth 100000 in
theorem rSectors_any (w : World) (Z : Nat → Prop) (d : Nat) (m : Dev) (h : RAt w Z d m) :
    Calls Tryd.prog 38 #[.pointer (some ⟨d, 0, none⟩)] w fun e w' => e = .returned (.int .i64 (m.n : Nat)) ∧ w = w' := by
  obtain ⟨ho, vd, vc, pk, hl⟩ := h
  have c1 := hl.cell 1
  simp [rCells] at c1
  obtain ⟨a, cap, rfl⟩ := hl.vd_len ho
  have hn := ho.n
  clear hl ho
  generalize m.n = n at c1 hn ⊢
  have e1 : True → ((64 * n : Nat) : Int) / 64 = (n : Int) := fun _ => by omega
  have e2 : True → (64 * (n : Int)) / 64 = (n : Int) := fun _ => by omega
  go_enter Tryd.func38, Tryd.ntmps38
  go_wp2
  go_ret
  refine ⟨?_, rfl⟩
  first
    | rfl
    | (refine ret_int ?_; omega)

set_option maxRecDepth 100000 in
theorem rOn_any (w : World) (Z : Nat → Prop) (d : Nat) (m : Dev) (h : RAt w Z d m) :
    Calls Tryd.prog 21 #[.pointer (some ⟨d, 0, none⟩)] w (RDoes0 w Z d { m with power := true } (.returned (.tuple #[]))) := by
  obtain ⟨ho, vd, vc, pk, hl⟩ := h
  have HL := Lib.hid hl; have HO := Lib.hid ho
  have c3 := hl.cell 3; have f3 := hl.free 3
  simp [rCells] at c3
  clear hl ho
  go_enter Tryd.func21, Tryd.ntmps21
  go_wp2
  refine bodyPost_end (results_none rfl _ _ _) rfl ?_
  refine ⟨rfl, ⟨power_ok HO.out true, vd, vc, pk, HL.out.turn ?_ (fun k hk => heap_setCell_other w _ k _ hk) (by simp) rfl rfl HL.out.pick⟩, turn_setCell _ HL.out.zd⟩
  rw [cell_set _ HL.out.box]
  simp [rCells, leftI]

theorem set2_other {w : World} {d : Nat} (i j : Nat) (x y : Value) (q : Nat) (hq : q ≠ d) : ((w.setCell ⟨d, i, none⟩ x).setCell ⟨d, j, none⟩ y).heap[q]? = w.heap[q]? := by
  rw [heap_setCell_other _ _ _ _ hq, heap_setCell_other _ _ _ _ hq]
theorem turn2 {w : World} {Z : Nat → Prop} {d : Nat} (i j : Nat) (x y : Value) (hz : Z d) : Turn Z w ((w.setCell ⟨d, i, none⟩ x).setCell ⟨d, j, none⟩ y) :=
  (turn_setCell (a := ⟨d, i, none⟩) x hz).trans' (turn_setCell (a := ⟨d, j, none⟩) y hz)


set_option maxRecDepth 100000 in
theorem rCut_dead (w : World) (Z : Nat → Prop) (d : Nat) (m : Dev) (h : RAt w Z d m) (hp : m.power = false) (z p : Int) :
    Calls Tryd.prog 19 #[.pointer (some ⟨d, 0, none⟩), .int .i64 z, .int .u64 p] w fun e w' => e = .returned (.tuple #[]) ∧ w = w' := by
  obtain ⟨ho, vd, vc, pk, hl⟩ := h
  have c0 := hl.cell 0; have c3 := hl.cell 3
  simp [rCells, hp] at c0 c3
  clear hl ho hp
  go_enter Tryd.func19, Tryd.ntmps19
  go_wp2
  refine bodyPost_ret (results_none rfl _ _ _) rfl ?_
  exact ⟨rfl, rfl⟩

set_option maxRecDepth 100000 in
theorem rCut_neg (w : World) (Z : Nat → Prop) (d : Nat) (m : Dev) (h : RAt w Z d m) (hp : m.power = true) (z : Int) (p : Nat) (hz : z < 0) :
    Calls Tryd.prog 19 #[.pointer (some ⟨d, 0, none⟩), .int .i64 z, .int .u64 p] w (RDoes0 w Z d { m with cut := none } (.returned (.tuple #[]))) := by
  obtain ⟨ho, vd, vc, pk, hl⟩ := h
  have HL := Lib.hid hl; have HO := Lib.hid ho; have HP := Lib.hid hp
  have c0 := hl.cell 0; have c3 := hl.cell 3; have c4 := hl.cell 4; have c5 := hl.cell 5
  have f4 := hl.free 4; have f5 := hl.free 5
  simp [rCells, hp] at c0 c3 c4 c5
  have hz' : z ≤ -1 := by omega
  clear hl ho hp
  go_enter Tryd.func19, Tryd.ntmps19
  go_wp2
  all_goals
    refine bodyPost_end (results_none rfl _ _ _) rfl ?_
    refine ⟨rfl, ⟨cut_none_ok HO.out, vd, vc, p, HL.out.turn ?_ (fun k hk => set2_other _ _ _ _ k hk) (by simp) rfl rfl (fun p h => by cases h)⟩, turn2 _ _ _ _ HL.out.zd⟩
    rw [cell_set _ (cell_set _ HL.out.box)]
    first
      | (simp [rCells, leftI]; done)
      | (simp [rCells, leftI]; omega)

set_option maxRecDepth 100000 in
theorem rCut_pos (w : World) (Z : Nat → Prop) (d : Nat) (m : Dev) (h : RAt w Z d m) (hp : m.power = true) (z p : Nat) (hz : z < 9223372036854775808) :
    Calls Tryd.prog 19 #[.pointer (some ⟨d, 0, none⟩), .int .i64 z, .int .u64 p] w (RDoes0 w Z d { m with cut := some (z, p) } (.returned (.tuple #[]))) := by
  obtain ⟨ho, vd, vc, pk, hl⟩ := h
  have HL := Lib.hid hl; have HO := Lib.hid ho; have HP := Lib.hid hp; have HZ := Lib.hid hz
  have c0 := hl.cell 0; have c3 := hl.cell 3; have c4 := hl.cell 4; have c5 := hl.cell 5
  have f4 := hl.free 4; have f5 := hl.free 5
  simp [rCells, hp] at c0 c3 c4 c5
  have hz' : (-1 : Int) ≤ (z : Int) := by omega
  have hz2 : ¬ (z : Int) ≤ -1 := by omega
  clear hl ho hp hz
  go_enter Tryd.func19, Tryd.ntmps19
  go_wp2
  all_goals
    refine bodyPost_end (results_none rfl _ _ _) rfl ?_
    refine ⟨rfl, ⟨cut_some_ok HO.out z p HZ.out, vd, vc, p, HL.out.turn ?_ (fun k hk => set2_other _ _ _ _ k hk) (by simp) rfl rfl (fun p h => by cases h; rfl)⟩, turn2 _ _ _ _ HL.out.zd⟩
    rw [cell_set _ (cell_set _ HL.out.box)]
    first
      | (simp [rCells, leftI]; done)
      | (simp [rCells, leftI]; omega)

end Go.Proofs.YtkhghkklekjdaaaDoor.sector
