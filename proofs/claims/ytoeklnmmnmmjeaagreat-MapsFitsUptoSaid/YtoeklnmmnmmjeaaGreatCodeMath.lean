/- Fields and their bytes, as lists of numbers: no program in here. -/
import Derived.WalkKit
import Derived.ProofKit
import Derived.Lib.Hide
import Derived.Test.YtoeklnmmnmmjeaaGreatKit
import Derived.Test.YtoeklnmmnmmjeaaGreatOwn
import Derived.Laws.AppendOwn
import Derived.Deep.QuietTactic
import Derived.Deep.MidRow
import Derived.Deep.OwnRows
namespace Go.Proofs.YtoeklnmmnmmjeaaGreat.cm
open Go.RowKit
open Go.Proofs.YtoeklnmmnmmjeaaGreat.kit

structure Fld where
  kind : Int
  num : Int
  text : ByteArray
  is : Bool

def Fld.val (f : Fld) : Value := .agg #[.int .i64 f.kind, .int .i64 f.num, .string f.text, .bool f.is]

/-- What a field's parts are, whatever it is. -/
structure Fld.Ok (f : Fld) : Prop where
  k0 : -9223372036854775808 ≤ f.kind
  k1 : f.kind ≤ 9223372036854775807
  n0 : -9223372036854775808 ≤ f.num
  n1 : f.num ≤ 9223372036854775807
  t : f.text.size ≤ maxLen

def Fld.fit (f : Fld) : Bool :=
  if f.kind = 1 then decide (0 ≤ f.num) && decide (f.text.toList = []) && !f.is
  else if f.kind = 2 then decide (f.text.toList = []) && !f.is
  else if f.kind = 3 then decide (0 ≤ f.num) && decide (f.num ≤ 4294967295) && decide (f.text.toList = []) && !f.is
  else if f.kind = 4 then decide (f.num = 0) && !f.is
  else if f.kind = 5 then decide (f.num = 0) && decide (f.text.toList = [])
  else false

/-- A number, seven bits a byte. -/
def numF : Nat → Nat → List Nat
  | 0, _ => []
  | k + 1, x => if x < 128 then [x] else (x % 128 + 128) :: numF k (x / 128)
def numB (x : Nat) : List Nat := numF 10 x
def zig (x : Int) : Nat := if x < 0 then (-2 * x - 1).toNat else (2 * x).toNat
def lowB (x : Nat) : List Nat := [x % 256, x / 256 % 256, x / 65536 % 256, x / 16777216 % 256]
def highF : Nat → Nat → List Nat
  | 0, _ => []
  | k + 1, x => highF k (x / 256) ++ [x % 256]
def highB (x : Nat) : List Nat := highF 8 x
def txtN (s : ByteArray) : List Nat := s.data.toList.map fun b => b.toNat
def escN : List Nat → List Nat
  | [] => []
  | c :: s => (if c = 0 then [0, 255] else [c]) ++ escN s
def flagN (b : Bool) : Nat := if b then 1 else 0
def flagB (b : Bool) : List Nat := [flagN b]

/-- A fit field's bytes. -/
def Fld.bytes (f : Fld) : List Nat :=
  if f.kind = 1 then numB f.num.toNat
  else if f.kind = 2 then numB (zig f.num)
  else if f.kind = 3 then lowB f.num.toNat
  else if f.kind = 4 then numB f.text.size ++ txtN f.text
  else flagB f.is
/-- A fit field as part of a key. -/
def Fld.part (f : Fld) : List Nat :=
  if f.kind = 1 ∨ f.kind = 3 then highB f.num.toNat
  else if f.kind = 2 then highB (f.num + 9223372036854775808).toNat
  else if f.kind = 4 then escN (txtN f.text) ++ [0, 1]
  else flagB f.is

def fits (l : List Fld) : Bool := l.all Fld.fit
def bytesL (l : List Fld) : List Nat := if fits l then l.flatMap Fld.bytes else []
def keyL (l : List Fld) : List Nat := if fits l then l.flatMap Fld.part else []

theorem numF_len : ∀ (k x : Nat), (numF k x).length ≤ k
  | 0, _ => by simp [numF]
  | k + 1, x => by
    unfold numF
    split
    · simp
    · have := numF_len k (x / 128); simp; omega
theorem numB_len (x : Nat) : (numB x).length ≤ 10 := numF_len 10 x
theorem numF_pos (k x : Nat) : 0 < (numF (k + 1) x).length := by unfold numF; split <;> simp
theorem numB_pos (x : Nat) : 0 < (numB x).length := numF_pos 9 x
theorem highF_len : ∀ k x, (highF k x).length = k
  | 0, _ => rfl
  | k + 1, x => by simp [highF, highF_len k]
theorem highB_len (x : Nat) : (highB x).length = 8 := highF_len 8 x

/-- What lay below B, and whatever is no row of cells of type e, lies as it lay. -/
structure Kept (B : Nat) (e : TypeId) (w w' : World) : Prop where
  os : w'.os = w.os
  tape : w'.tape = w.tape
  output : w'.output = w.output
  size : w.heap.size ≤ w'.heap.size
  below : ∀ k, k < B → w'.heap[k]? = w.heap[k]?
  other : ∀ k, k < w.heap.size → (∀ cur fz, w.heap[k]? ≠ some (.cells cur e fz)) → w'.heap[k]? = w.heap[k]?

theorem Kept.refl (B : Nat) (e : TypeId) (w : World) : Kept B e w w := ⟨rfl, rfl, rfl, Nat.le_refl _, fun _ _ => rfl, fun _ _ _ => rfl⟩
theorem Kept.trans {B : Nat} {e : TypeId} {a b c : World} (h : Kept B e a b) (k : Kept B e b c) : Kept B e a c :=
  ⟨k.os.trans h.os, k.tape.trans h.tape, k.output.trans h.output, Nat.le_trans h.size k.size, fun i hi => (k.below i hi).trans (h.below i hi), fun i hi hn =>
    (k.other i (Nat.lt_of_lt_of_le hi h.size) (fun cur fz e' => hn cur fz ((h.other i hi hn).symm.trans e'))).trans (h.other i hi hn)⟩
theorem Kept.toBelow {B : Nat} {e : TypeId} {a b : World} (h : Kept B e a b) : Below B a b := ⟨h.os, h.tape, h.output, h.size, h.below⟩
/-- What turned nothing that lay at all. -/
theorem Kept.of_below {B : Nat} {e : TypeId} {a b : World} (hB : B ≤ a.heap.size) (h : Below a.heap.size a b) : Kept B e a b :=
  ⟨h.os, h.tape, h.output, h.size, fun k hk => h.block k (by omega), fun k hk _ => h.block k hk⟩
theorem Kept.drewN {B : Nat} {e : TypeId} {a b : World} (h : Kept B e a b) (n : Nat) : Kept B e a (b.drewN n) := ⟨h.os, h.tape, h.output, h.size, h.below, h.other⟩
theorem Kept.drew {B : Nat} {e : TypeId} {a b : World} (h : Kept B e a b) : Kept B e a b.drew := ⟨h.os, h.tape, h.output, h.size, h.below, h.other⟩
theorem Kept.box {B : Nat} {e : TypeId} {a b : World} (h : Kept B e a b) {k : Nat} {cur : Array Value} {t : TypeId} {fz : Nat × Nat} (ht : t ≠ e) (hk : a.heap[k]? = some (.cells cur t fz)) : b.heap[k]? = some (.cells cur t fz) :=
  (h.other k (Array.getElem?_eq_some_iff.1 hk).1 (fun c f e' => by rw [hk] at e'; cases e'; exact ht rfl)).trans hk

theorem Kept.boxCell {B : Nat} {e : TypeId} {a b : World} (h : Kept B e a b) {k : Nat} {cur : Array Value} {t : TypeId} {fz : Nat × Nat} (ht : t ≠ e) (hk : a.heap[k]? = some (.cells cur t fz)) (j : Nat) : b.cell? ⟨k, j, none⟩ = cur[j]? := by
  have := h.box ht hk
  simp [World.cell?, this]

/-- An append to a row of the call's own. -/
theorem Kept.grown {B : Nat} {e : TypeId} {a b : World} {size n : Nat} {v : Value} {xs : List Value} (hB : B ≤ a.heap.size) (ho : a.ownsRow B e size v n xs) (h : a.grownBy b v.ownBlock) : Kept B e a b := by
  refine ⟨h.os, h.tape, h.output, h.size, fun k hk => h.block k (by omega) ?_, fun k hk hn => h.block k hk ?_⟩ <;>
  · rcases ho.2 with ⟨rfl, _⟩ | ⟨g, cap, cur, rfl, hg, hc, _⟩
    · simp [Value.ownBlock]
    · intro e'
      obtain rfl : k = g := by simpa [Value.ownBlock] using e'
      first
        | omega
        | exact hn _ _ hc

/-- 'v = append(v, x...)' of numbers onto a slice of the call's own. -/
theorem appN {P : Program} {wr : World} {ops : Array Oper} {rest : List Oper} {o : Oper} {a : Act} {Q : Exit → Act → World → Prop} (hgd : o.guard = none) (s x : Operand) (t : TypeId)
    (ho : o.op = .call { callee := .builtin .append, args := #[s, x], argTypes := #[t, t] })
    (B e : Nat) (k : IntKind) (bytes : Nat) (ht : P.underlying t = some (.slice e)) (hi : (P.info? e).map (fun i => (i.zero, i.size, i.bytes)) = some (some (.int k 0), 1, bytes))
    (v : Value) (ns : List Nat) (hs : a.eval s = v) (hown : OwnI wr B e k v ns) (b off m c : Nat) (ms : List Nat) (hm : ms.length = m) (hx : a.eval x = .slice (some ⟨b, off, none⟩) m c)
    (hcell : ∀ j, j < m → wr.cell? ⟨b, off + j, none⟩ = some (.int k (ms.getD j 0 : Nat)))
    (h63 : ns.length + m ≤ maxLen) (hb : (ns.length + m) * bytes ≤ 140737488355328) (hB : B ≤ wr.heap.size)
    (h : ∀ v' w', OwnI w' B e k v' (ns ++ ms) → Kept B e wr w' → wpList P ops Q rest (a.put o.dst v') w') : wpList P ops Q (o :: rest) a wr := by
  obtain ⟨i0, hi, hz0, hz1, hz2⟩ := info_parts hi
  refine wpList_append_own wr hgd s x t ho B e i0 (.int k 0) 1 bytes ht hi hz0 hz1 hz2 rfl (by decide) v ns.length (ns.map fun n : Nat => Value.int k (n : Int)) hs hown ⟨b, off, none⟩ m c (ms.map fun n : Nat => Value.int k (n : Int)) hx (by simp [hm]) ?_ ?_ h63 hb hB ?_
  · intro j u hu
    have hj : j < ms.length := by simpa using (List.getElem?_eq_some_iff.1 hu).1
    rw [add_plain', hcell j (by omega)]
    rw [← hu]; simp [List.getD, hj]
  · intro u hu
    obtain ⟨_, _, rfl⟩ := List.mem_map.1 hu
    rfl
  · intro v' w' hown' hg _
    refine h v' w' ?_ (Kept.grown hB hown hg)
    unfold OwnI
    simpa [hm] using hown'

/-- 'v = append(v, c)' of one number onto a slice of the call's own. -/
theorem app1K {P : Program} {wr : World} {ops : Array Oper} {rest : List Oper} {o : Oper} {a : Act} {Q : Exit → Act → World → Prop} (hgd : o.guard = none) (s x : Operand) (t : TypeId)
    (ho : o.op = .call { callee := .builtin .append, args := #[s, x], argTypes := #[t, t] })
    (B e : Nat) (k : IntKind) (bytes : Nat) (ht : P.underlying t = some (.slice e)) (hi : (P.info? e).map (fun i => (i.zero, i.size, i.bytes)) = some (some (.int k 0), 1, bytes))
    (v : Value) (ns : List Nat) (hs : a.eval s = v) (hown : OwnI wr B e k v ns) (c : Nat) (z : Int) (hz : z = (c : Int)) (n : Nat) (hn : n = wr.heap.size) (hx : a.eval x = .slice (some ⟨n, 0, none⟩) 1 1)
    (h63 : ns.length + 1 ≤ maxLen) (hb : (ns.length + 1) * bytes ≤ 140737488355328) (hB : B ≤ wr.heap.size)
    (h : ∀ v' w', OwnI w' B e k v' (ns ++ [c]) → Kept B e wr w' → wpList P ops Q rest (a.put o.dst v') w') : wpList P ops Q (o :: rest) a (wr.alloc (.cells #[.int k z] e)) := by
  subst hz hn
  have hbel : Below wr.heap.size wr (wr.alloc (.cells #[.int k (c : Int)] e)) := (Below.refl _ _).alloc (Nat.le_refl _) _
  refine appN hgd s x t ho B e k bytes ht hi v ns hs ?_ wr.heap.size 0 1 1 [c] rfl hx ?_ h63 hb (by rw [World.size_alloc]; omega) ?_
  · exact hown.alloc _
  · intro j hj
    obtain rfl : j = 0 := by omega
    rw [World.cell?_alloc_at _ _ _ _ rfl]; rfl
  · intro v' w' ho hk
    exact h v' w' ho ((Kept.of_below hB hbel).trans hk)

theorem range_of_row {w : World} {b : Nat} {t : TypeId} {n : Nat} {f : Nat → Value} (h : w.rowIs b t n f) : w.rangeAt b 0 ((List.range n).map f) := by
  intro j v hv
  have hj : j < n := by simpa using (List.getElem?_eq_some_iff.1 hv).1
  have e : f j = v := by simpa [hj] using hv
  rw [Nat.zero_add, h.cell hj, e]
theorem there_of_row {w : World} {b : Nat} {t : TypeId} {n : Nat} {f : Nat → Value} (h : w.rowIs b t n f) : w.there b 0 n := by
  intro j hj
  rw [Nat.zero_add]
  exact ⟨by rw [h.cell hj]; rfl, h.frozen j⟩

/-- What is handed back of a variable of many cells. -/
theorem ret_cell {P : Program} {fn : Func} {t : Tmp} {T : TypeId} {tmps : Array Value} {w : World} {b : Nat} {cs : List Value} {d : TypeDesc} (h : fn.results = #[.cell t T]) (ht : tmps.getD t undef = .pointer (some ⟨b, 0, none⟩))
    (hc : w.rangeAt b 0 cs) (hu : P.underlying T = some d) (hd : d.isRow = true) (hi : (P.info? T).map (·.size) = some cs.length) : (results fn tmps).run P w = .ok (.agg cs.toArray) w := by
  have := run_loadVar_mid w b 0 T cs d hc hu hd hi
  have ht' : tmps[t]?.getD undef = .pointer (some ⟨b, 0, none⟩) := by simpa using ht
  simp [results, h, ht', asAddr, this]

/-- .. and a number beside it. -/
theorem ret_cell_tmp {P : Program} {fn : Func} {t u : Tmp} {T : TypeId} {tmps : Array Value} {w : World} {b : Nat} {cs : List Value} {d : TypeDesc} (h : fn.results = #[.cell t T, .tmp u]) (ht : tmps.getD t undef = .pointer (some ⟨b, 0, none⟩))
    (hc : w.rangeAt b 0 cs) (hu : P.underlying T = some d) (hd : d.isRow = true) (hi : (P.info? T).map (·.size) = some cs.length) : (results fn tmps).run P w = .ok (.tuple #[.agg cs.toArray, tmps.getD u undef]) w := by
  have := run_loadVar_mid w b 0 T cs d hc hu hd hi
  have ht' : tmps[t]?.getD undef = .pointer (some ⟨b, 0, none⟩) := by simpa using ht
  simp [results, h, ht', asAddr, this]

theorem Below.setCells {B : Nat} {w w' : World} (h : Below B w w') {b : Nat} (hb : B ≤ b) (o : Nat) (vs : List Value) : Below B w (w'.setCells b o vs) := by
  induction vs generalizing w' o with
  | nil => exact h
  | cons v r ih => exact ih (h.setCell (p := ⟨b, o, none⟩) hb v) (o + 1)

end Go.Proofs.YtoeklnmmnmmjeaaGreat.cm
