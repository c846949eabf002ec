/- A device: what it is, where it lies, what it owns; its smallest functions. -/
import Derived.Test.YtkhghkklekjdaaaDoorRows
import Derived.Test.YtkhghkklekjdaaaDoorSectorBase
import Derived.Laws.OwnMore
import Derived.Laws.AppendOwn
import Derived.StillTailTactics
namespace Go.Proofs.YtkhghkklekjdaaaDoor.sector
open Go.RowKit
open Go.Proofs.YtkhghkklekjdaaaDoor.kit Go.Proofs.YtkhghkklekjdaaaDoor.own
set_option linter.unusedVariables false

/-- A device, as the chapter tells it: the cache, what is laid down, how many sectors; the power, a cut, what was counted. -/
structure Dev where
  cache : List (Nat × List Nat)
  laid : List Nat
  n : Nat
  power : Bool
  cut : Option (Nat × Nat)
  ws : Nat
  fs : Nat

def keys (c : List (Nat × List Nat)) : List Nat := c.map (·.1)
def flat (c : List (Nat × List Nat)) : List Nat := c.flatMap (·.2)
@[simp] theorem keys_len (c : List (Nat × List Nat)) : (keys c).length = c.length := by simp [keys]

structure Dev.Ok (m : Dev) : Prop where
  n : m.n ≤ 4096
  laid : m.laid.length = 64 * m.n
  laidLt : ∀ x ∈ m.laid, x < 256
  cache : ∀ p ∈ m.cache, p.1 < m.n ∧ p.2.length = 64 ∧ ∀ x ∈ p.2, x < 256
  once : (keys m.cache).Nodup
  cut : ∀ p, m.cut = some p → p.1 < 9223372036854775808
  ws : m.ws < 4611686018427387904
  fs : m.fs < 4611686018427387904

def isCut (m : Dev) : Bool := m.cut.isSome
def cutLeft (m : Dev) : Nat := match m.cut with | some p => p.1 | none => 0
def cutPick (m : Dev) : Nat := match m.cut with | some p => p.2 | none => 0

/-- The cells of a device's variable. -/
def devCells (m : Dev) (vo vb vl : Value) : Array Value := #[vo, vb, vl, .bool m.power, .bool (isCut m), .int .i64 (cutLeft m : Nat), .int .u64 (cutPick m : Nat), .int .i64 (m.ws : Nat), .int .i64 (m.fs : Nat)]

/-- The device lies at block d; all that it owns lies in blocks of Z. -/
structure Lies (w : World) (Z : Nat → Prop) (d : Nat) (m : Dev) (vo vb vl : Value) : Prop where
  box : w.heap[d]? = some (.cells (devCells m vo vb vl) 69 (0, 0))
  order : OwnI w 0 3 .i64 vo (keys m.cache)
  blocks : w.ownsRow 0 61 64 vb m.cache.length (bv (flat m.cache))
  laid : w.ownsRow 0 61 64 vl m.n (bv m.laid)
  apart : ∀ g, vb.ownBlock = some g → vl.ownBlock ≠ some g
  zd : Z d
  zo : ∀ g, vo.ownBlock = some g → Z g
  zb : ∀ g, vb.ownBlock = some g → Z g
  zl : ∀ g, vl.ownBlock = some g → Z g
  zlt : ∀ k, Z k → k < w.heap.size

def DevAt (w : World) (Z : Nat → Prop) (d : Nat) (m : Dev) : Prop := m.Ok ∧ ∃ vo vb vl, Lies w Z d m vo vb vl

/-- A block of a row of the call's own bears the row's type. -/
theorem own_type {w : World} {B e size n : Nat} {v : Value} {xs : List Value} (h : w.ownsRow B e size v n xs) {g : Nat} (hg : v.ownBlock = some g) : ∃ cur, w.heap[g]? = some (.cells cur e (0, 0)) := by
  rcases h.2 with ⟨rfl, _⟩ | ⟨g', cap, cur, rfl, _, hh, _⟩
  · cases hg
  · cases hg
    exact ⟨cur, hh⟩
theorem own_ne {w : World} {B e e' size size' n n' : Nat} {v v' : Value} {xs xs' : List Value} (h : w.ownsRow B e size v n xs) (h' : w.ownsRow B e' size' v' n' xs') (hne : e ≠ e') {g : Nat} (hg : v.ownBlock = some g) : v'.ownBlock ≠ some g := by
  intro hg'
  obtain ⟨c, hc⟩ := own_type h hg
  obtain ⟨c', hc'⟩ := own_type h' hg'
  rw [hc] at hc'
  cases hc'
  exact hne rfl
theorem own_ne_box {w : World} {B e t size n d : Nat} {v : Value} {xs : List Value} {c : Array Value} (h : w.ownsRow B e size v n xs) (hd : w.heap[d]? = some (.cells c t (0, 0))) (hne : e ≠ t) : v.ownBlock ≠ some d := by
  intro hg
  obtain ⟨c', hc'⟩ := own_type h hg
  rw [hd] at hc'
  cases hc'
  exact hne rfl

/-- What is owned stays where its block stays. -/
theorem own_stays {w w' : World} {B e size n : Nat} {v : Value} {xs : List Value} (h : w.ownsRow B e size v n xs) (hs : ∀ g, v.ownBlock = some g → w'.heap[g]? = w.heap[g]?) : w'.ownsRow B e size v n xs := by
  refine ⟨h.1, ?_⟩
  rcases h.2 with hn | ⟨g, cap, cur, rfl, hb, hg, rest⟩
  · exact .inl hn
  · exact .inr ⟨g, cap, cur, rfl, hb, (hs g rfl).trans hg, rest⟩

theorem Lies.stays {w w' : World} {Z : Nat → Prop} {d : Nat} {m : Dev} {vo vb vl : Value} (h : Lies w Z d m vo vb vl) (hs : ∀ k, Z k → w'.heap[k]? = w.heap[k]?) (hz : w.heap.size ≤ w'.heap.size) : Lies w' Z d m vo vb vl :=
  ⟨(hs d h.zd).trans h.box, own_stays h.order (fun g hg => hs g (h.zo g hg)), own_stays h.blocks (fun g hg => hs g (h.zb g hg)), own_stays h.laid (fun g hg => hs g (h.zl g hg)), h.apart, h.zd, h.zo, h.zb, h.zl,
    fun k hk => Nat.lt_of_lt_of_le (h.zlt k hk) hz⟩
theorem DevAt.stays {w w' : World} {Z : Nat → Prop} {d : Nat} {m : Dev} (h : DevAt w Z d m) (hs : ∀ k, Z k → w'.heap[k]? = w.heap[k]?) (hz : w.heap.size ≤ w'.heap.size) : DevAt w' Z d m := by
  obtain ⟨ho, vo, vb, vl, hl⟩ := h
  exact ⟨ho, vo, vb, vl, hl.stays hs hz⟩
theorem DevAt.keep {w w' : World} {Z : Nat → Prop} {d : Nat} {m : Dev} (h : DevAt w Z d m) (hb : Below w.heap.size w w') : DevAt w' Z d m := by
  obtain ⟨ho, vo, vb, vl, hl⟩ := h
  exact ⟨ho, vo, vb, vl, hl.stays (fun k hk => hb.block k (hl.zlt k hk)) hb.size⟩
theorem DevAt.lt {w : World} {Z : Nat → Prop} {d : Nat} {m : Dev} (h : DevAt w Z d m) : ∀ k, Z k → k < w.heap.size := by
  obtain ⟨_, _, _, _, hl⟩ := h
  exact hl.zlt

/-- Only blocks of Z are turned, of those that lay. -/
structure Turn (Z : Nat → Prop) (w w' : World) : Prop where
  os : w'.os = w.os
  tape : w'.tape = w.tape
  output : w'.output = w.output
  size : w.heap.size ≤ w'.heap.size
  block : ∀ k, k < w.heap.size → ¬ Z k → w'.heap[k]? = w.heap[k]?
theorem Turn.refl (Z : Nat → Prop) (w : World) : Turn Z w w := ⟨rfl, rfl, rfl, Nat.le_refl _, fun _ _ _ => rfl⟩
theorem Turn.of_below {Z : Nat → Prop} {w w' : World} (h : Below w.heap.size w w') : Turn Z w w' := ⟨h.os, h.tape, h.output, h.size, fun k hk _ => h.block k hk⟩
/-- Z, and what is new. -/
def More (Z : Nat → Prop) (w w' : World) (k : Nat) : Prop := Z k ∨ (w.heap.size ≤ k ∧ k < w'.heap.size)
theorem Turn.trans {Z : Nat → Prop} {a b c : World} (h : Turn Z a b) (k : Turn (More Z a b) b c) : Turn Z a c :=
  ⟨k.os.trans h.os, k.tape.trans h.tape, k.output.trans h.output, Nat.le_trans h.size k.size, fun i hi hn => (k.block i (Nat.lt_of_lt_of_le hi h.size) (fun hm => by
    rcases hm with hm | hm
    · exact hn hm
    · omega)).trans (h.block i hi hn)⟩
theorem Turn.trans' {Z : Nat → Prop} {a b c : World} (h : Turn Z a b) (k : Turn Z b c) : Turn Z a c :=
  ⟨k.os.trans h.os, k.tape.trans h.tape, k.output.trans h.output, Nat.le_trans h.size k.size, fun i hi hn => (k.block i (Nat.lt_of_lt_of_le hi h.size) hn).trans (h.block i hi hn)⟩
theorem Turn.below {Z : Nat → Prop} {B : Nat} {w0 w w' : World} (h0 : Below B w0 w) (h : Turn Z w w') (hB : B ≤ w.heap.size) (hz : ∀ k, Z k → B ≤ k) : Below B w0 w' :=
  h0.trans ⟨h.os, h.tape, h.output, h.size, fun k hk => h.block k (by omega) (fun hk' => by have := hz k hk'; omega)⟩

theorem Lies.cell {w : World} {Z : Nat → Prop} {d : Nat} {m : Dev} {vo vb vl : Value} (h : Lies w Z d m vo vb vl) (j : Nat) : w.cell? ⟨d, j, none⟩ = (devCells m vo vb vl)[j]? := by
  simp [World.cell?, h.box]
theorem Lies.free {w : World} {Z : Nat → Prop} {d : Nat} {m : Dev} {vo vb vl : Value} (h : Lies w Z d m vo vb vl) (j : Nat) : w.frozen? ⟨d, j, none⟩ = false := by
  simp [World.frozen?, h.box]
theorem Lies.lt {w : World} {Z : Nat → Prop} {d : Nat} {m : Dev} {vo vb vl : Value} (h : Lies w Z d m vo vb vl) : d < w.heap.size := h.zlt d h.zd
theorem Lies.vl_len {w : World} {Z : Nat → Prop} {d : Nat} {m : Dev} {vo vb vl : Value} (h : Lies w Z d m vo vb vl) : ∃ a cap, vl = .slice a m.n cap := by
  rcases h.laid.2 with ⟨rfl, h0⟩ | ⟨g, cap, cur, rfl, _⟩
  · exact ⟨none, 0, by rw [h0]⟩
  · exact ⟨_, cap, rfl⟩
theorem Lies.vo_len {w : World} {Z : Nat → Prop} {d : Nat} {m : Dev} {vo vb vl : Value} (h : Lies w Z d m vo vb vl) : ∃ a cap, vo = .slice a m.cache.length cap := by
  have h1 := h.order
  unfold OwnI at h1
  rcases h1.2 with ⟨rfl, h0⟩ | ⟨g, cap, cur, rfl, _⟩
  · exact ⟨none, 0, by rw [keys_len] at h0; rw [h0]⟩
  · exact ⟨_, cap, by rw [keys_len]⟩

set_option maxRecDepth 100000 in
theorem Sectors_any (w : World) (Z : Nat → Prop) (d : Nat) (m : Dev) (h : DevAt w Z d m) :
    Calls Tryd.prog 31 #[.pointer (some ⟨d, 0, none⟩)] w fun e w' => e = .returned (.int .i64 (m.n : Nat)) ∧ w = w' := by
  obtain ⟨ho, vo, vb, vl, hl⟩ := h
  have c2 := hl.cell 2
  obtain ⟨a, cap, rfl⟩ := hl.vl_len
  clear hl ho
  generalize hn : m.n = n at c2 ⊢
  have HN := Lib.hid hn
  clear hn
  simp only [devCells] at c2
  go_enter Tryd.func31, Tryd.ntmps31
  go_wp2
  go_ret
  exact ⟨rfl, rfl⟩

set_option maxRecDepth 100000 in
theorem Sectors_nil (w : World) : Calls Tryd.prog 31 #[.pointer none] w fun e w' => e = .returned (.int .i64 0) ∧ w = w' := by
  go_enter Tryd.func31, Tryd.ntmps31
  go_wp2
  go_ret
  exact ⟨rfl, rfl⟩

set_option maxRecDepth 100000 in
theorem Dead_any (w : World) (Z : Nat → Prop) (d : Nat) (m : Dev) (h : DevAt w Z d m) :
    Calls Tryd.prog 34 #[.pointer (some ⟨d, 0, none⟩)] w fun e w' => e = .returned (.bool !m.power) ∧ w = w' := by
  obtain ⟨ho, vo, vb, vl, hl⟩ := h
  have c3 := hl.cell 3
  simp only [devCells] at c3
  clear hl ho
  go_enter Tryd.func34, Tryd.ntmps34
  go_wp2
  go_ret
  exact ⟨rfl, rfl⟩

set_option maxRecDepth 100000 in
theorem Dead_nil (w : World) : Calls Tryd.prog 34 #[.pointer none] w fun e w' => e = .returned (.bool true) ∧ w = w' := by
  go_enter Tryd.func34, Tryd.ntmps34
  go_wp2
  go_ret
  exact ⟨rfl, rfl⟩

set_option maxRecDepth 100000 in
theorem has_yes (w : World) (Z : Nat → Prop) (d : Nat) (m : Dev) (h : DevAt w Z d m) (k : Int) (hk : 0 ≤ k ∧ k < (m.n : Int)) :
    Calls Tryd.prog 64 #[.pointer (some ⟨d, 0, none⟩), .int .i64 k] w fun e w' => e = .returned (.bool true) ∧ w = w' := by
  have HS := Lib.hid (Sectors_any w Z d m h)
  obtain ⟨h1, h2⟩ := hk
  clear h
  generalize m.n = n at HS h2
  go_enter Tryd.func64, Tryd.ntmps64
  go_wp2_with fail
  refine HS.out.mono ?_
  rintro e w' ⟨rfl, rfl⟩
  go_wp2
  go_ret
  exact ⟨rfl, rfl⟩

set_option maxRecDepth 100000 in
theorem has_no (w : World) (Z : Nat → Prop) (d : Nat) (m : Dev) (h : DevAt w Z d m) (k : Int) (hk : ¬ (0 ≤ k ∧ k < (m.n : Int))) :
    Calls Tryd.prog 64 #[.pointer (some ⟨d, 0, none⟩), .int .i64 k] w fun e w' => e = .returned (.bool false) ∧ w = w' := by
  have HS := Lib.hid (Sectors_any w Z d m h)
  clear h
  generalize m.n = n at HS hk
  by_cases h1 : 0 ≤ k
  · have h2 : decide (k < (n : Int)) = false := by simpa using fun h => hk ⟨h1, h⟩
    clear hk
    go_enter Tryd.func64, Tryd.ntmps64
    go_wp2_with fail
    refine HS.out.mono ?_
    rintro e w' ⟨rfl, rfl⟩
    go_wp2
    go_ret
    exact ⟨rfl, rfl⟩
  · clear hk
    go_enter Tryd.func64, Tryd.ntmps64
    go_wp2
    go_ret
    exact ⟨rfl, rfl⟩

/-- The device's own cells are turned, nothing else of its. -/
theorem Lies.turn {w w' : World} {Z : Nat → Prop} {d : Nat} {m m' : Dev} {vo vb vl : Value} (h : Lies w Z d m vo vb vl) (hbox : w'.heap[d]? = some (.cells (devCells m' vo vb vl) 69 (0, 0)))
    (hs : ∀ k, k ≠ d → w'.heap[k]? = w.heap[k]?) (hz : w.heap.size ≤ w'.heap.size) (hc : m'.cache = m.cache) (hl : m'.laid = m.laid) (hn : m'.n = m.n) : Lies w' Z d m' vo vb vl := by
  have n1 := own_ne_box h.order h.box (by decide)
  have n2 := own_ne_box h.blocks h.box (by decide)
  have n3 := own_ne_box h.laid h.box (by decide)
  refine ⟨hbox, ?_, ?_, ?_, h.apart, h.zd, h.zo, h.zb, h.zl, fun k hk => Nat.lt_of_lt_of_le (h.zlt k hk) hz⟩
  · rw [hc]
    exact own_stays h.order (fun g hg => hs g (fun e => n1 (e ▸ hg)))
  · rw [hc]
    exact own_stays h.blocks (fun g hg => hs g (fun e => n2 (e ▸ hg)))
  · rw [hl, hn]
    exact own_stays h.laid (fun g hg => hs g (fun e => n3 (e ▸ hg)))
theorem turn_setCell {w : World} {Z : Nat → Prop} {a : Addr} (v : Value) (hz : Z a.block) : Turn Z w (w.setCell a v) :=
  ⟨rfl, rfl, rfl, by simp, fun k _ hk => heap_setCell_other w a k v (fun e => hk (e ▸ hz))⟩
theorem cell_set {w : World} {d j : Nat} {c : Array Value} {t : TypeId} (v : Value) (h : w.heap[d]? = some (.cells c t (0, 0))) : (w.setCell ⟨d, j, none⟩ v).heap[d]? = some (.cells (c.setIfInBounds j v) t (0, 0)) :=
  heap_setCell_same w d j c t v h

def letsB (m : Dev) : Bool := match m.cut with | some (0, _) => false | _ => true
def afterLets (m : Dev) : Dev := { m with cut := m.cut.map fun p => (p.1 - 1, p.2) }
theorem afterLets_ok {m : Dev} (h : m.Ok) : (afterLets m).Ok := ⟨h.n, h.laid, h.laidLt, h.cache, h.once, fun p hp => by
  cases hc : m.cut with
  | none => simp [afterLets, hc] at hp
  | some q =>
    simp [afterLets, hc] at hp
    subst hp
    have := h.cut q hc
    simp only
    omega, h.ws, h.fs⟩

/-- What is answered, and the device behind it. -/
def Does (w : World) (Z : Nat → Prop) (d : Nat) (m' : Dev) (x : Ending) (e : Ending) (w' : World) : Prop := e = x ∧ DevAt w' (More Z w w') d m' ∧ Turn Z w w'
/-- .. where it owns no new block. -/
def Does0 (w : World) (Z : Nat → Prop) (d : Nat) (m' : Dev) (x : Ending) (e : Ending) (w' : World) : Prop := e = x ∧ DevAt w' Z d m' ∧ Turn Z w w'

set_option maxRecDepth 100000 in
theorem lets_none (w : World) (Z : Nat → Prop) (d : Nat) (m : Dev) (h : DevAt w Z d m) (hc : m.cut = none) :
    Calls Tryd.prog 68 #[.pointer (some ⟨d, 4, none⟩)] w fun e w' => e = .returned (.bool true) ∧ w = w' := by
  obtain ⟨ho, vo, vb, vl, hl⟩ := h
  have c4 := hl.cell 4
  simp only [devCells, isCut, hc] at c4
  clear hl ho hc
  go_enter Tryd.func68, Tryd.ntmps68
  go_wp2
  go_ret
  exact ⟨rfl, rfl⟩

set_option maxRecDepth 100000 in
theorem lets_zero (w : World) (Z : Nat → Prop) (d : Nat) (m : Dev) (h : DevAt w Z d m) (p : Nat) (hc : m.cut = some (0, p)) :
    Calls Tryd.prog 68 #[.pointer (some ⟨d, 4, none⟩)] w fun e w' => e = .returned (.bool false) ∧ w = w' := by
  obtain ⟨ho, vo, vb, vl, hl⟩ := h
  have c4 := hl.cell 4
  have c5 := hl.cell 5
  simp only [devCells, isCut, cutLeft, hc] at c4 c5
  clear hl ho hc
  go_enter Tryd.func68, Tryd.ntmps68
  go_wp2
  go_ret
  exact ⟨rfl, rfl⟩

set_option maxRecDepth 100000 in
theorem lets_more (w : World) (Z : Nat → Prop) (d : Nat) (m : Dev) (h : DevAt w Z d m) (l p : Nat) (hc : m.cut = some (l + 1, p)) :
    Calls Tryd.prog 68 #[.pointer (some ⟨d, 4, none⟩)] w (Does0 w Z d { m with cut := some (l, p) } (.returned (.bool true))) := by
  obtain ⟨ho, vo, vb, vl, hl⟩ := h
  have c4 := hl.cell 4
  have c5 := hl.cell 5
  have f5 := hl.free 5
  have hlt := ho.cut _ hc
  simp only [devCells, isCut, cutLeft, hc] at c4 c5
  simp only at hlt
  have HL := Lib.hid hl; have HO := Lib.hid ho; have HC := Lib.hid hc
  have hne : ((l + 1 : Nat) : Int) ≠ 0 := by omega
  have h0 : (0 : Int) ≤ ((l + 1 : Nat) : Int) := by omega
  have e1 : True → (((l + 1 : Nat) : Int) == 0) = false := fun _ => by rw [beq_eq_false_iff_ne]; omega
  have e2 : True → ((l + 1 : Nat) : Int) - 1 = (l : Int) := fun _ => by omega
  have hlt' := Lib.hid hlt
  have hb : (l : Int) ≤ 9223372036854775807 := by omega
  clear hl ho hc hlt
  generalize hL : l + 1 = L at c5 hne h0 e1 e2
  go_enter Tryd.func68, Tryd.ntmps68
  go_wp2
  go_ret
  refine ⟨rfl, ⟨?_, vo, vb, vl, HL.out.turn ?_ (fun k hk => heap_setCell_other w _ k _ hk) (by simp) rfl rfl rfl⟩, turn_setCell _ HL.out.zd⟩
  · have ho := HO.out
    refine ⟨ho.n, ho.laid, ho.laidLt, ho.cache, ho.once, fun q hq => ?_, ho.ws, ho.fs⟩
    cases hq
    have := hlt'.out
    simp only
    omega
  · have := cell_set (j := 5) (.int .i64 (l : Int)) HL.out.box
    simpa [devCells, isCut, cutLeft, cutPick, HC.out] using this

/-- Dead, as it is. -/
theorem Dead_on (w : World) (Z : Nat → Prop) (d : Nat) (m : Dev) (h : DevAt w Z d m) (hp : m.power = true) :
    Calls Tryd.prog 34 #[.pointer (some ⟨d, 0, none⟩)] w fun e w' => e = .returned (.bool false) ∧ w = w' := by
  have := Dead_any w Z d m h
  rw [hp] at this
  exact this
theorem Dead_off (w : World) (Z : Nat → Prop) (d : Nat) (m : Dev) (h : DevAt w Z d m) (hp : m.power = false) :
    Calls Tryd.prog 34 #[.pointer (some ⟨d, 0, none⟩)] w fun e w' => e = .returned (.bool true) ∧ w = w' := by
  have := Dead_any w Z d m h
  rw [hp] at this
  exact this

set_option maxRecDepth 100000 in
theorem Cut_dead (w : World) (Z : Nat → Prop) (d : Nat) (m : Dev) (h : DevAt w Z d m) (hp : m.power = false) (z p : Int) :
    Calls Tryd.prog 18 #[.pointer (some ⟨d, 0, none⟩), .int .i64 z, .int .u64 p] w fun e w' => e = .returned (.tuple #[]) ∧ w = w' := by
  have HD := Lib.hid (Dead_off w Z d m h hp)
  clear h
  go_enter Tryd.func18, Tryd.ntmps18
  go_wp2_with fail
  refine HD.out.mono ?_
  rintro e w' ⟨rfl, rfl⟩
  go_wp2
  refine bodyPost_ret (results_none rfl _ _ _) rfl ?_
  exact ⟨rfl, rfl⟩

theorem cut_cells (m : Dev) (vo vb vl : Value) (l p : Nat) : ((((devCells m vo vb vl).setIfInBounds 4 (.bool true)).setIfInBounds 5 (.int .i64 (l : Int))).setIfInBounds 6 (.int .u64 (p : Int))) = devCells { m with cut := some (l, p) } vo vb vl := by
  simp [devCells, isCut, cutLeft, cutPick]
theorem cut_cells_none (m : Dev) (vo vb vl : Value) : ((((devCells m vo vb vl).setIfInBounds 4 (.bool false)).setIfInBounds 5 (.int .i64 0)).setIfInBounds 6 (.int .u64 0)) = devCells { m with cut := none } vo vb vl := by
  simp [devCells, isCut, cutLeft, cutPick]
/-- Three cells of a box are written. -/
theorem set3 {w : World} {d : Nat} {c : Array Value} {t : TypeId} (i j k : Nat) (x y z : Value) (h : w.heap[d]? = some (.cells c t (0, 0))) :
    (((w.setCell ⟨d, i, none⟩ x).setCell ⟨d, j, none⟩ y).setCell ⟨d, k, none⟩ z).heap[d]? = some (.cells (((c.setIfInBounds i x).setIfInBounds j y).setIfInBounds k z) t (0, 0)) := cell_set z (cell_set y (cell_set x h))
theorem set3_other {w : World} {d : Nat} (i j k : Nat) (x y z : Value) (q : Nat) (hq : q ≠ d) : (((w.setCell ⟨d, i, none⟩ x).setCell ⟨d, j, none⟩ y).setCell ⟨d, k, none⟩ z).heap[q]? = w.heap[q]? := by
  rw [heap_setCell_other _ _ _ _ hq, heap_setCell_other _ _ _ _ hq, heap_setCell_other _ _ _ _ hq]
theorem turn3 {w : World} {Z : Nat → Prop} {d : Nat} (i j k : Nat) (x y z : Value) (hz : Z d) : Turn Z w (((w.setCell ⟨d, i, none⟩ x).setCell ⟨d, j, none⟩ y).setCell ⟨d, k, none⟩ z) :=
  ((turn_setCell (a := ⟨d, i, none⟩) x hz).trans' (turn_setCell (a := ⟨d, j, none⟩) y hz)).trans' (turn_setCell (a := ⟨d, k, none⟩) z hz)

theorem cut_none_ok {m : Dev} (h : m.Ok) : ({ m with cut := none } : Dev).Ok := ⟨h.n, h.laid, h.laidLt, h.cache, h.once, fun _ hp => (by cases hp), h.ws, h.fs⟩
theorem cut_some_ok {m : Dev} (h : m.Ok) (l p : Nat) (hl : l < 9223372036854775808) : ({ m with cut := some (l, p) } : Dev).Ok := ⟨h.n, h.laid, h.laidLt, h.cache, h.once, fun _ hp => (by cases hp; exact hl), h.ws, h.fs⟩

set_option maxRecDepth 100000 in
theorem Cut_neg (w : World) (Z : Nat → Prop) (d : Nat) (m : Dev) (h : DevAt w Z d m) (hp : m.power = true) (z p : Int) (hz : z < 0) :
    Calls Tryd.prog 18 #[.pointer (some ⟨d, 0, none⟩), .int .i64 z, .int .u64 p] w (Does0 w Z d { m with cut := none } (.returned (.tuple #[]))) := by
  have HD := Lib.hid (Dead_on w Z d m h hp)
  obtain ⟨ho, vo, vb, vl, hl⟩ := h
  have HL := Lib.hid hl; have HO := Lib.hid ho
  have c4 := hl.cell 4; have c5 := hl.cell 5; have c6 := hl.cell 6
  have f4 := hl.free 4; have f5 := hl.free 5; have f6 := hl.free 6
  simp [devCells] at c4 c5 c6
  clear hl ho hp
  go_enter Tryd.func18, Tryd.ntmps18
  go_wp2_with fail
  refine HD.out.mono ?_
  rintro e w' ⟨rfl, rfl⟩
  go_wp2
  refine bodyPost_end (results_none rfl _ _ _) rfl ?_
  refine ⟨rfl, ⟨cut_none_ok HO.out, vo, vb, vl, HL.out.turn ?_ (fun k hk => set3_other _ _ _ _ _ _ k hk) (by simp) rfl rfl rfl⟩, turn3 _ _ _ _ _ _ HL.out.zd⟩
  rw [set3 _ _ _ _ _ _ HL.out.box, cut_cells_none]

set_option maxRecDepth 100000 in
theorem Cut_pos (w : World) (Z : Nat → Prop) (d : Nat) (m : Dev) (h : DevAt w Z d m) (hp : m.power = true) (z p : Nat) (hz : z < 9223372036854775808) :
    Calls Tryd.prog 18 #[.pointer (some ⟨d, 0, none⟩), .int .i64 z, .int .u64 p] w (Does0 w Z d { m with cut := some (z, p) } (.returned (.tuple #[]))) := by
  have HD := Lib.hid (Dead_on w Z d m h hp)
  obtain ⟨ho, vo, vb, vl, hl⟩ := h
  have HL := Lib.hid hl; have HO := Lib.hid ho; have HZ := Lib.hid hz
  have c4 := hl.cell 4; have c5 := hl.cell 5; have c6 := hl.cell 6
  have f4 := hl.free 4; have f5 := hl.free 5; have f6 := hl.free 6
  simp [devCells] at c4 c5 c6
  have h0 : (0 : Int) ≤ (z : Int) := by omega
  clear hl ho hp hz
  go_enter Tryd.func18, Tryd.ntmps18
  go_wp2_with fail
  refine HD.out.mono ?_
  rintro e w' ⟨rfl, rfl⟩
  go_wp2
  refine bodyPost_end (results_none rfl _ _ _) rfl ?_
  have HL2 := HL.out.turn (m' := { m with cut := none }) (by rw [set3 4 5 6 _ _ _ HL.out.box, cut_cells_none]) (fun k hk => set3_other _ _ _ _ _ _ k hk) (by simp) rfl rfl rfl
  refine ⟨rfl, ⟨cut_some_ok HO.out z p HZ.out, vo, vb, vl, HL2.turn ?_ (fun k hk => set3_other _ _ _ _ _ _ k hk) (by simp) rfl rfl rfl⟩, (turn3 _ _ _ _ _ _ HL.out.zd).trans' (turn3 _ _ _ _ _ _ HL.out.zd)⟩
  rw [set3 _ _ _ _ _ _ HL2.box, cut_cells]

theorem power_ok {m : Dev} (h : m.Ok) (b : Bool) : ({ m with power := b } : Dev).Ok := ⟨h.n, h.laid, h.laidLt, h.cache, h.once, h.cut, h.ws, h.fs⟩
set_option maxRecDepth 100000 in
theorem On_any (w : World) (Z : Nat → Prop) (d : Nat) (m : Dev) (h : DevAt w Z d m) (hn : 0 < m.n) :
    Calls Tryd.prog 20 #[.pointer (some ⟨d, 0, none⟩)] w (Does0 w Z d { m with power := true } (.returned (.tuple #[]))) := by
  have HS := Lib.hid (Sectors_any w Z d m h)
  obtain ⟨ho, vo, vb, vl, hl⟩ := h
  have HL := Lib.hid hl; have HO := Lib.hid ho
  have c3 := hl.cell 3; have f3 := hl.free 3
  simp [devCells] at c3
  have hn' : (0 : Int) < (m.n : Int) := by omega
  clear hl ho hn
  go_enter Tryd.func20, Tryd.ntmps20
  go_wp2_with fail
  refine HS.out.mono ?_
  rintro e w' ⟨rfl, rfl⟩
  go_wp2
  refine bodyPost_end (results_none rfl _ _ _) rfl ?_
  refine ⟨rfl, ⟨power_ok HO.out true, vo, vb, vl, HL.out.turn ?_ (fun k hk => heap_setCell_other w _ k _ hk) (by simp) rfl rfl rfl⟩, turn_setCell _ HL.out.zd⟩
  rw [cell_set _ HL.out.box]
  simp [devCells, isCut, cutLeft, cutPick]

set_option maxRecDepth 100000 in
theorem On_none (w : World) (Z : Nat → Prop) (d : Nat) (m : Dev) (h : DevAt w Z d m) (hn : m.n = 0) :
    Calls Tryd.prog 20 #[.pointer (some ⟨d, 0, none⟩)] w fun e w' => e = .returned (.tuple #[]) ∧ w = w' := by
  have HS := Lib.hid (Sectors_any w Z d m h)
  rw [hn] at HS
  clear h
  go_enter Tryd.func20, Tryd.ntmps20
  go_wp2_with fail
  refine HS.out.mono ?_
  rintro e w' ⟨rfl, rfl⟩
  go_wp2
  refine bodyPost_end (results_none rfl _ _ _) rfl ?_
  exact ⟨rfl, rfl⟩

end Go.Proofs.YtkhghkklekjdaaaDoor.sector
