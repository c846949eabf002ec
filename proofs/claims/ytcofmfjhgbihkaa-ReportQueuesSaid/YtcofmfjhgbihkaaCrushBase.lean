/- Words of the layer crush: items and straws as rows of cells; slices of them. -/
import Derived.Test.YtcofmfjhgbihkaaRows
import Derived.Test.YtcofmfjhgbihkaaOwn
import Derived.Laws.CopyOwn
import Derived.Deep.MidRow
import Derived.Deep.QuietTactic
import Derived.Deep.RegionHeld3
import Derived.Deep.Cut
import Derived.Laws.NewBlocks
import Derived.Laws.StructEq
import Derived.Lib.Strings
import Derived.Laws.Rows
import Derived.Laws.AppendOwn
import Derived.RangeFuncRecord
import Derived.RangeFuncBox
import Derived.OwnWalkIn
import Derived.Sort.Grow
import Derived.Deep.WholeRow
import Derived.Test.YtcofmfjhgbihkaaCrushMath
namespace Go.Proofs.Ytcofmfjhgbihkaa.crush
open Go.RowKit
open Go.Proofs.Ytcofmfjhgbihkaa.kit Go.Proofs.Ytcofmfjhgbihkaa.own
set_option linter.unusedVariables false

/-- A straw: its item's Id and (clamped) weight, its place, its cost. -/
structure Str where
  id : Int
  wt : Nat
  place : Nat
  cost : Nat
def wc (x : It) : List Value := [.int .i64 x.1, .int .i64 x.2]
def sc (x : Str) : List Value := [.int .i64 x.id, .int .i64 x.wt, .int .i64 x.place, .int .i64 x.cost]
def ic (x : Int) : List Value := [.int .i64 x]
theorem wc_len (x : It) : (wc x).length = 2 := rfl
theorem sc_len (x : Str) : (sc x).length = 4 := rfl
theorem ic_len (x : Int) : (ic x).length = 1 := rfl
theorem wc_one (x : It) : ∀ v ∈ wc x, v.oneCell' = true := by
  intro v hv
  simp [wc] at hv
  rcases hv with rfl | rfl <;> rfl
theorem sc_one (x : Str) : ∀ v ∈ sc x, v.oneCell' = true := by
  intro v hv
  simp [sc] at hv
  rcases hv with rfl | rfl | rfl | rfl <;> rfl
theorem ic_one (x : Int) : ∀ v ∈ ic x, v.oneCell' = true := by
  intro v hv
  simp [ic] at hv
  subst hv; rfl
theorem infoInt : (Try.prog.info? 3).map (fun i => (i.zero, i.size, i.bytes)) = some (some (.int .i64 0), 1, 8) := by kernel_rfl
/-- The slice value v reads, in the world w, as the rows xs. -/
def Sl {α : Type} (enc : α → List Value) (k : Nat) (w : World) (v : Value) (xs : List α) : Prop :=
  xs.length ≤ 9223372036854775807 ∧ ∃ (a : Option Addr) (cap : Nat), v = .slice a xs.length cap ∧ (a = none → cap = 0) ∧
    (0 < xs.length → ∃ b off, a = some ⟨b, off, none⟩ ∧ b < w.heap.size ∧ ∀ j (h : j < xs.length), w.rangeAt b (off + j * k) (enc xs[j]))

section
variable {α : Type} {enc : α → List Value} {k : Nat}

theorem Sl.nil (w : World) : Sl enc k w (.slice none 0 0) [] := ⟨by simp, none, 0, rfl, fun _ => rfl, fun h => by simp at h⟩
theorem range_keep {w w' : World} {b o : Nat} {cs : List Value} (h : w.rangeAt b o cs) (hlt : b < w.heap.size) (hb : Below w.heap.size w w') : w'.rangeAt b o cs := fun j v hv =>
  (hb.cell (p := ⟨b, o + j, none⟩) hlt).trans (h j v hv)
theorem Sl.keep {w w' : World} {v : Value} {xs : List α} (h : Sl enc k w v xs) (hb : Below w.heap.size w w') : Sl enc k w' v xs := by
  obtain ⟨hl, a, cap, rfl, hn, hc⟩ := h
  refine ⟨hl, a, cap, rfl, hn, fun h0 => ?_⟩
  obtain ⟨b, off, rfl, hlt, hcell⟩ := hc h0
  exact ⟨b, off, rfl, Nat.lt_of_lt_of_le hlt hb.size, fun j hj => range_keep (hcell j hj) hlt hb⟩

theorem flat_len (hk : ∀ x, (enc x).length = k) : ∀ xs : List α, (xs.flatMap enc).length = xs.length * k
  | [] => by simp
  | x :: xs => by rw [List.flatMap_cons, List.length_append, hk, flat_len hk xs, List.length_cons, Nat.succ_mul]; omega
theorem flat_at (hk : ∀ x, (enc x).length = k) : ∀ (xs : List α) (j i : Nat) (hj : j < xs.length), i < k → (xs.flatMap enc)[j * k + i]? = (enc xs[j])[i]?
  | x :: xs, 0, i, _, hi => by
    rw [List.flatMap_cons, Nat.zero_mul, Nat.zero_add, List.getElem?_append_left (by rw [hk]; exact hi)]; rfl
  | x :: xs, j + 1, i, hj, hi => by
    have hj' : j < xs.length := by simpa using hj
    rw [List.flatMap_cons, List.getElem?_append_right (by rw [hk, Nat.succ_mul]; omega), hk, show (j + 1) * k + i - k = j * k + i by rw [Nat.succ_mul]; omega, flat_at hk xs j i hj' hi]
    rfl

/-- The slice value v is the call's own (from block B on) and reads as the rows xs. -/
def Own (enc : α → List Value) (k e : Nat) (w : World) (B : Nat) (v : Value) (xs : List α) : Prop := w.ownsRow B e k v xs.length (xs.flatMap enc)

theorem Own.nil (w : World) (e B : Nat) : Own enc k e w B (.slice none 0 0) [] := World.ownsRow_nil _ _ _ _
theorem Own.len {w : World} {e B : Nat} {v : Value} {xs : List α} (h : Own enc k e w B v xs) : xs.length ≤ maxLen := by
  obtain ⟨h1, h2⟩ := id h
  rcases h2 with ⟨rfl, h0⟩ | ⟨g, cap, cur, rfl, hB, hg, hc, hm, hs, ht⟩ <;> omega
theorem Own.read {w : World} {e B : Nat} {v : Value} {xs : List α} (hk : ∀ x, (enc x).length = k) (h : Own enc k e w B v xs) : Sl enc k w v xs := by
  obtain ⟨h1, h2⟩ := id h
  rcases h2 with ⟨rfl, h0⟩ | ⟨g, cap, cur, rfl, hB, hg, hc, hm, hs, ht⟩
  · obtain rfl : xs = [] := List.eq_nil_of_length_eq_zero h0
    exact Sl.nil _
  · refine ⟨by unfold maxLen at hm; omega, some ⟨g, 0, none⟩, cap, rfl, fun h => (by cases h), fun _ => ⟨g, 0, rfl, (Array.getElem?_eq_some_iff.1 hg).1, fun j hj i u hu => ?_⟩⟩
    have hi : i < k := by have := (List.getElem?_eq_some_iff.1 hu).1; rwa [hk] at this
    have := World.ownsRow.cells h (g := g) rfl (j * k + i) u (by rw [flat_at hk xs j i hj hi]; exact hu)
    rw [add_plain'] at this
    rw [Nat.zero_add]
    simpa using this
theorem Own.below {w w' : World} {e B : Nat} {v : Value} {xs : List α} (h : Own enc k e w B v xs) (hb : Below w.heap.size w w') : Own enc k e w' B v xs := by
  obtain ⟨h1, h2⟩ := id h
  refine ⟨h1, ?_⟩
  rcases h2 with ⟨rfl, h0⟩ | ⟨g, cap, cur, rfl, hB, hg, hr⟩
  · exact .inl ⟨rfl, h0⟩
  · exact .inr ⟨g, cap, cur, rfl, hB, (hb.block g (Array.getElem?_eq_some_iff.1 hg).1).trans hg, hr⟩
theorem Own.mono {w : World} {e B B' : Nat} {v : Value} {xs : List α} (h : Own enc k e w B v xs) (hB : B' ≤ B) : Own enc k e w B' v xs := by
  obtain ⟨h1, h2⟩ := id h
  refine ⟨h1, ?_⟩
  rcases h2 with ⟨rfl, h0⟩ | ⟨g, cap, cur, rfl, hb, hr⟩
  · exact .inl ⟨rfl, h0⟩
  · exact .inr ⟨g, cap, cur, rfl, by omega, hr⟩
theorem Own.slice {w : World} {e B : Nat} {v : Value} {xs : List α} (h : Own enc k e w B v xs) : ∃ a c, v = .slice a xs.length c := by
  rcases h.2 with ⟨rfl, h0⟩ | ⟨g, cap, cur, rfl, _⟩
  · exact ⟨none, 0, by rw [h0]⟩
  · exact ⟨_, _, rfl⟩
theorem Sl.slice {w : World} {v : Value} {xs : List α} (h : Sl enc k w v xs) : ∃ a c, v = .slice a xs.length c := by
  obtain ⟨_, a, c, rfl, _⟩ := h
  exact ⟨a, c, rfl⟩

/-- 'T{..}' of one row, as a slice. -/
theorem sl_new (hk : ∀ x, (enc x).length = k) (w : World) (y : α) (e n : Nat) (hn : n = w.heap.size) : Sl enc k (w.alloc (.cells (enc y).toArray e)) (.slice (some ⟨n, 0, none⟩) 1 1) [y] := by
  subst hn
  refine ⟨by simp, _, _, rfl, fun h => (by cases h), fun _ => ⟨w.heap.size, 0, rfl, by simp, fun j hj i u hu => ?_⟩⟩
  obtain rfl : j = 0 := by simpa using hj
  rw [World.cell?_alloc_at _ _ _ _ rfl]
  simpa using hu

/-- 'v = append(v, x...)' of rows that are read, nil or not, onto a slice of the call's own. -/
theorem appSl (hk : ∀ x, (enc x).length = k) (h1 : ∀ x, ∀ v ∈ enc x, v.oneCell' = true) (hk0 : 0 < k) {P : Program} {wr : World} {ops : Array Oper} {rest : List Oper} {o : Oper} {a : Act} {Q : Exit → Act → World → Prop} (hgd : o.guard = none) (s x : Operand) (t : TypeId)
    (ho : o.op = .call { callee := .builtin .append, args := #[s, x], argTypes := #[t, t] })
    (B e : Nat) (z : Value) (hz : z.cells.size = k) (bytes : Nat) (ht : P.underlying t = some (.slice e)) (hi : (P.info? e).map (fun i => (i.zero, i.size, i.bytes)) = some (some z, k, bytes))
    (v : Value) (xs : List α) (hs : a.eval s = v) (hown : Own enc k e wr B v xs) (vx : Value) (ys : List α) (hx : a.eval x = vx) (hr : Sl enc k wr vx ys)
    (h63 : xs.length + ys.length ≤ maxLen) (hb : (xs.length + ys.length) * bytes ≤ 140737488355328) (hB : B ≤ wr.heap.size)
    (h : ∀ v' w', Own enc k e w' B v' (xs ++ ys) → Kept B e wr w' → wpList P ops Q rest (a.put o.dst v') w') : wpList P ops Q (o :: rest) a wr := by
  obtain ⟨hl, ax, cx, rfl, hnil, hc⟩ := hr
  obtain ⟨i0, hi, hz0, hz1, hz2⟩ := info_parts hi
  cases ax with
  | none =>
    obtain rfl := hnil rfl
    have h0 : ys.length = 0 := by
      rcases Nat.eq_zero_or_pos ys.length with h0 | h0
      · exact h0
      · obtain ⟨b, off, e', _⟩ := hc h0
        cases e'
    obtain rfl : ys = [] := List.eq_nil_of_length_eq_zero h0
    refine wpList_append_own_none hgd s x t ho B e i0 k ht hi v xs.length _ hs hown hx ?_
    exact h v wr (by rw [List.append_nil]; exact hown) (Kept.refl _ _ _)
  | some ax =>
    obtain ⟨b, off, spot⟩ := ax
    have hn' : ∀ v' : Value, ∀ w' : World, w'.ownsRow B e k v' (xs.length + ys.length) (xs.flatMap enc ++ ys.flatMap enc) → Own enc k e w' B v' (xs ++ ys) := by
      intro v' w' hh
      unfold Own
      rw [List.length_append, List.flatMap_append]
      exact hh
    have news : ∀ (j : Nat) u, (ys.flatMap enc)[j]? = some u → wr.cell? ((⟨b, off, spot⟩ : Addr).add j) = some u := by
      intro j u hu
      have hj : j < ys.length * k := by have := (List.getElem?_eq_some_iff.1 hu).1; rwa [flat_len hk] at this
      have hq : j / k < ys.length := (Nat.div_lt_iff_lt_mul hk0).2 hj
      obtain ⟨b', off', e', hlt, hcell⟩ := hc (Nat.lt_of_le_of_lt (Nat.zero_le _) hq)
      cases e'
      have hd : j = (j / k) * k + j % k := (Nat.div_add_mod' j k).symm
      rw [hd, flat_at hk ys (j / k) (j % k) hq (Nat.mod_lt _ hk0)] at hu
      rw [add_plain', hd, ← Nat.add_assoc]
      exact hcell (j / k) hq (j % k) u hu
    have hone : ∀ u ∈ ys.flatMap enc, u.oneCell' = true := by
      intro u hu
      obtain ⟨y, _, hy⟩ := List.mem_flatMap.1 hu
      exact h1 y u hy
    refine wpList_append_own wr hgd s x t ho B e i0 z k bytes ht hi hz0 hz1 hz2 hz hk0 v xs.length (xs.flatMap enc) hs hown ⟨b, off, spot⟩ ys.length cx (ys.flatMap enc) hx (flat_len hk ys) news hone h63 hb hB ?_
    intro v' w' hown' hg _
    exact h v' w' (hn' v' w' hown') (Kept.grown hB hown hg)

/-- .. and what it may write. 'v = append(v, x...)' of rows that are read, nil or not, onto a slice of the call's own. -/
theorem appSlG (hk : ∀ x, (enc x).length = k) (h1 : ∀ x, ∀ v ∈ enc x, v.oneCell' = true) (hk0 : 0 < k) {P : Program} {wr : World} {ops : Array Oper} {rest : List Oper} {o : Oper} {a : Act} {Q : Exit → Act → World → Prop} (hgd : o.guard = none) (s x : Operand) (t : TypeId)
    (ho : o.op = .call { callee := .builtin .append, args := #[s, x], argTypes := #[t, t] })
    (B e : Nat) (z : Value) (hz : z.cells.size = k) (bytes : Nat) (ht : P.underlying t = some (.slice e)) (hi : (P.info? e).map (fun i => (i.zero, i.size, i.bytes)) = some (some z, k, bytes))
    (v : Value) (xs : List α) (hs : a.eval s = v) (hown : Own enc k e wr B v xs) (vx : Value) (ys : List α) (hx : a.eval x = vx) (hr : Sl enc k wr vx ys)
    (h63 : xs.length + ys.length ≤ maxLen) (hb : (xs.length + ys.length) * bytes ≤ 140737488355328) (hB : B ≤ wr.heap.size)
    (h : ∀ v' w', Own enc k e w' B v' (xs ++ ys) → Kept B e wr w' → wr.grownBy w' v.ownBlock → wpList P ops Q rest (a.put o.dst v') w') : wpList P ops Q (o :: rest) a wr := by
  obtain ⟨hl, ax, cx, rfl, hnil, hc⟩ := hr
  obtain ⟨i0, hi, hz0, hz1, hz2⟩ := info_parts hi
  cases ax with
  | none =>
    obtain rfl := hnil rfl
    have h0 : ys.length = 0 := by
      rcases Nat.eq_zero_or_pos ys.length with h0 | h0
      · exact h0
      · obtain ⟨b, off, e', _⟩ := hc h0
        cases e'
    obtain rfl : ys = [] := List.eq_nil_of_length_eq_zero h0
    refine wpList_append_own_none hgd s x t ho B e i0 k ht hi v xs.length _ hs hown hx ?_
    exact h v wr (by rw [List.append_nil]; exact hown) (Kept.refl _ _ _) ⟨rfl, rfl, rfl, Nat.le_refl _, fun _ _ _ => rfl⟩
  | some ax =>
    obtain ⟨b, off, spot⟩ := ax
    have hn' : ∀ v' : Value, ∀ w' : World, w'.ownsRow B e k v' (xs.length + ys.length) (xs.flatMap enc ++ ys.flatMap enc) → Own enc k e w' B v' (xs ++ ys) := by
      intro v' w' hh
      unfold Own
      rw [List.length_append, List.flatMap_append]
      exact hh
    have news : ∀ (j : Nat) u, (ys.flatMap enc)[j]? = some u → wr.cell? ((⟨b, off, spot⟩ : Addr).add j) = some u := by
      intro j u hu
      have hj : j < ys.length * k := by have := (List.getElem?_eq_some_iff.1 hu).1; rwa [flat_len hk] at this
      have hq : j / k < ys.length := (Nat.div_lt_iff_lt_mul hk0).2 hj
      obtain ⟨b', off', e', hlt, hcell⟩ := hc (Nat.lt_of_le_of_lt (Nat.zero_le _) hq)
      cases e'
      have hd : j = (j / k) * k + j % k := (Nat.div_add_mod' j k).symm
      rw [hd, flat_at hk ys (j / k) (j % k) hq (Nat.mod_lt _ hk0)] at hu
      rw [add_plain', hd, ← Nat.add_assoc]
      exact hcell (j / k) hq (j % k) u hu
    have hone : ∀ u ∈ ys.flatMap enc, u.oneCell' = true := by
      intro u hu
      obtain ⟨y, _, hy⟩ := List.mem_flatMap.1 hu
      exact h1 y u hy
    refine wpList_append_own wr hgd s x t ho B e i0 z k bytes ht hi hz0 hz1 hz2 hz hk0 v xs.length (xs.flatMap enc) hs hown ⟨b, off, spot⟩ ys.length cx (ys.flatMap enc) hx (flat_len hk ys) news hone h63 hb hB ?_
    intro v' w' hown' hg _
    exact h v' w' (hn' v' w' hown') (Kept.grown hB hown hg) hg

theorem Own.blk {w : World} {e B : Nat} {v : Value} {xs : List α} (h : Own enc k e w B v xs) : ∀ g, v.ownBlock = some g → B ≤ g ∧ g < w.heap.size := World.ownsRow.lt h
/-- What lies in no block of the row stays. -/
theorem grown_keep {w w' : World} {e B : Nat} {v : Value} {xs : List α} (h : Own enc k e w B v xs) {u : World} (hu : Below w.heap.size w u) (hg : u.grownBy w' v.ownBlock) {M : Nat} (hM : w.heap.size ≤ M) (hMu : M < u.heap.size) : w'.heap[M]? = u.heap[M]? :=
  hg.block M hMu (fun e' => by have := (h.blk M e'.symm).2; omega)

end


theorem wcells_at {w : World} {b o : Nat} {x : It} (h : w.rangeAt b o (wc x)) : w.cell? ⟨b, o, none⟩ = some (.int .i64 x.1) ∧ w.cell? ⟨b, o + 1, none⟩ = some (.int .i64 x.2) :=
  ⟨h 0 _ rfl, h 1 _ rfl⟩
theorem scells_at {w : World} {b o : Nat} {x : Str} (h : w.rangeAt b o (sc x)) : w.cell? ⟨b, o, none⟩ = some (.int .i64 x.id) ∧ w.cell? ⟨b, o + 1, none⟩ = some (.int .i64 x.wt) ∧ w.cell? ⟨b, o + 2, none⟩ = some (.int .i64 x.place) ∧ w.cell? ⟨b, o + 3, none⟩ = some (.int .i64 x.cost) :=
  ⟨h 0 _ rfl, h 1 _ rfl, h 2 _ rfl, h 3 _ rfl⟩
theorem icell_at {w : World} {b o : Nat} {x : Int} (h : w.rangeAt b o (ic x)) : w.cell? ⟨b, o, none⟩ = some (.int .i64 x) := h 0 _ rfl
def I64 (z : Int) : Prop := -9223372036854775808 ≤ z ∧ z ≤ 9223372036854775807
/-- 64 bits each. -/
def It.Ok (x : It) : Prop := I64 x.1 ∧ I64 x.2
theorem below_new (w : World) (o : Obj) : Below w.heap.size w (w.alloc o) := (Below.refl _ _).alloc (Nat.le_refl _) _
theorem below_drew {B : Nat} {a u : World} (h : Below B a u) : Below B a u.drew := ⟨h.os, h.tape, h.output, h.size, h.block⟩
open Go.Sort in
theorem grow_below {w w' : World} (h : ∃ q os', w' = Sort.grow (w.drewN q) os') : Below w.heap.size w w' := by
  obtain ⟨q, os, rfl⟩ := h
  refine ⟨rfl, rfl, rfl, ?_, fun k hk => Sort.heap_grow_old (w.drewN q) os hk⟩
  rw [Sort.size_grow]
  exact Nat.le_add_right _ _

/-- A run of stores into a list. -/
def setL {α : Type} (l : List α) : Nat → List α → List α
  | _, [] => l
  | o, v :: r => setL (l.set o v) (o + 1) r
theorem setL_len {α : Type} : ∀ (vs : List α) (o : Nat) (l : List α), (setL l o vs).length = l.length
  | [], _, _ => rfl
  | v :: r, o, l => by rw [setL, setL_len r]; simp
theorem setL_at {α : Type} : ∀ (vs : List α) (o : Nat) (l : List α) (t : Nat), o + vs.length ≤ l.length → (setL l o vs)[t]? = if o ≤ t ∧ t < o + vs.length then vs[t - o]? else l[t]?
  | [], o, l, t, _ => by rw [if_neg (by simp)]; rfl
  | v :: r, o, l, t, h => by
    have hl : o + 1 + r.length ≤ l.length := by simp at h; omega
    rw [setL, setL_at r (o + 1) _ t (by simpa using hl)]
    by_cases h1 : o + 1 ≤ t ∧ t < o + 1 + r.length
    · rw [if_pos h1, if_pos (by simp; omega)]
      obtain ⟨u, rfl⟩ : ∃ u, t = o + 1 + u := ⟨t - (o + 1), by omega⟩
      simp [show o + 1 + u - o = u + 1 by omega]
    · rw [if_neg h1]
      by_cases h2 : t = o
      · subst h2
        rw [if_pos (by simp), List.getElem?_set_self (by omega)]
        simp
      · rw [if_neg (by simp; omega), List.getElem?_set_ne (by omega)]

theorem heap_setCells (g : Nat) (t : TypeId) : ∀ (vs : List Value) (o : Nat) (w : World) (cur : Array Value), w.heap[g]? = some (.cells cur t (0, 0)) → (w.setCells g o vs).heap[g]? = some (.cells (setL cur.toList o vs).toArray t (0, 0))
  | [], o, w, cur, h => by rw [World.setCells, setL]; simpa using h
  | v :: r, o, w, cur, h => by
    rw [World.setCells, heap_setCells g t r (o + 1) _ _ (heap_setCell_same w g o cur t v h), setL]
    simp
theorem heap_setCells_other (g : Nat) : ∀ (vs : List Value) (o : Nat) (w : World) (k : Nat), k ≠ g → (w.setCells g o vs).heap[k]? = w.heap[k]?
  | [], o, w, k, _ => rfl
  | v :: r, o, w, k, h => by
    rw [World.setCells, heap_setCells_other g r (o + 1) _ k h, heap_setCell_other _ _ _ _ h]
theorem size_setCells (g : Nat) : ∀ (vs : List Value) (o : Nat) (w : World), (w.setCells g o vs).heap.size = w.heap.size
  | [], o, w => rfl
  | v :: r, o, w => by
    rw [World.setCells, size_setCells g r]
    show (w.heap.modify _ _).size = _
    rw [Array.size_modify]
theorem setCells_frame (g : Nat) : ∀ (vs : List Value) (o : Nat) (w : World), (w.setCells g o vs).os = w.os ∧ (w.setCells g o vs).tape = w.tape ∧ (w.setCells g o vs).output = w.output
  | [], o, w => ⟨rfl, rfl, rfl⟩
  | v :: r, o, w => by rw [World.setCells]; exact setCells_frame g r (o + 1) _
theorem grown_setCells (w : World) (g o : Nat) (vs : List Value) : w.grownBy (w.setCells g o vs) (some g) := by
  obtain ⟨h1, h2, h3⟩ := setCells_frame g vs o w
  exact ⟨h1, h2, h3, by rw [size_setCells]; exact Nat.le_refl _, fun k _ hn => heap_setCells_other g vs o w k (fun e => hn (by rw [e]))⟩
theorem below_grown {B : Nat} {w w' w'' : World} {g : Nat} (h : Below B w w') (hg : w'.grownBy w'' (some g)) (hB : B ≤ g) (hs : B ≤ w'.heap.size) : Below B w w'' :=
  h.grown hg hs (fun j hj => by cases hj; exact hB)

section
variable {α : Type} {enc : α → List Value} {k : Nat}
theorem flat_set (hk : ∀ x, (enc x).length = k) (hk0 : 0 < k) (xs : List α) (i : Nat) (hi : i < xs.length) (x : α) : setL (xs.flatMap enc) (i * k) (enc x) = (xs.set i x).flatMap enc := by
  have hb : i * k + (enc x).length ≤ (xs.flatMap enc).length := by
    rw [hk, flat_len hk]
    have := Nat.mul_le_mul_right k (show i + 1 ≤ xs.length from hi)
    rwa [Nat.add_mul, Nat.one_mul] at this
  apply List.ext_getElem?
  intro t
  rw [setL_at _ _ _ _ hb, hk]
  rcases Nat.lt_or_ge t (xs.length * k) with ht | ht
  · have hq : t / k < xs.length := (Nat.div_lt_iff_lt_mul hk0).2 ht
    have hd : t = t / k * k + t % k := (Nat.div_add_mod' t k).symm
    have hm := Nat.mod_lt t hk0
    have e1 : ((xs.set i x).flatMap enc)[t]? = (enc ((xs.set i x)[t / k]'(by simpa using hq)))[t % k]? := by
      conv => lhs; rw [hd]
      exact flat_at hk (xs.set i x) (t / k) (t % k) (by simpa using hq) hm
    have e2 : (xs.flatMap enc)[t]? = (enc xs[t / k])[t % k]? := by
      conv => lhs; rw [hd]
      exact flat_at hk xs (t / k) (t % k) hq hm
    rw [e1, e2, List.getElem_set]
    by_cases h : i = t / k
    · subst h
      rw [if_pos ⟨by omega, by omega⟩, if_pos rfl, show t - t / k * k = t % k by omega]
    · rw [if_neg h, if_neg]
      rintro ⟨h1, h2⟩
      apply h
      have a1 : i ≤ t / k := (Nat.le_div_iff_mul_le hk0).2 h1
      have a2 : t / k < i + 1 := (Nat.div_lt_iff_lt_mul hk0).2 (by rw [Nat.add_mul, Nat.one_mul]; exact h2)
      omega
  · have hn1 : (xs.flatMap enc)[t]? = none := by rw [List.getElem?_eq_none]; rw [flat_len hk]; exact ht
    have hn2 : ((xs.set i x).flatMap enc)[t]? = none := by rw [List.getElem?_eq_none]; rw [flat_len hk]; simpa using ht
    rw [hn1, hn2, if_neg]
    rintro ⟨h1, h2⟩
    have := Nat.mul_le_mul_right k (show i + 1 ≤ xs.length from hi)
    rw [Nat.add_mul, Nat.one_mul] at this
    omega

/-- The own row in its block. -/
structure OwnAt (enc : α → List Value) (k e : Nat) (w : World) (g cap : Nat) (xs : List α) : Prop where
  ex : ∃ cur, w.heap[g]? = some (.cells cur e (0, 0)) ∧ cur.size = cap * k ∧ cur.toList.take (xs.length * k) = xs.flatMap enc
  le : xs.length ≤ cap
  max : cap ≤ maxLen
theorem OwnAt.own {e B g cap : Nat} {w : World} {xs : List α} (hk : ∀ x, (enc x).length = k) (h : OwnAt enc k e w g cap xs) (hB : B ≤ g) : Own enc k e w B (.slice (some ⟨g, 0, none⟩) xs.length cap) xs := by
  obtain ⟨cur, h1, h2, h3⟩ := h.ex
  exact ⟨flat_len hk xs, .inr ⟨g, cap, cur, rfl, hB, h1, h.le, h.max, h2, h3⟩⟩
theorem Own.at {e B : Nat} {w : World} {v : Value} {xs : List α} (h : Own enc k e w B v xs) : (v = .slice none 0 0 ∧ xs = []) ∨ ∃ g cap, v = .slice (some ⟨g, 0, none⟩) xs.length cap ∧ B ≤ g ∧ OwnAt enc k e w g cap xs := by
  rcases h.2 with ⟨rfl, h0⟩ | ⟨g, cap, cur, rfl, hB, hg, hc, hm, hs, ht⟩
  · exact .inl ⟨rfl, List.eq_nil_of_length_eq_zero h0⟩
  · exact .inr ⟨g, cap, rfl, hB, ⟨cur, hg, hs, ht⟩, hc, hm⟩
theorem OwnAt.lt {e g cap : Nat} {w : World} {xs : List α} (h : OwnAt enc k e w g cap xs) : g < w.heap.size := by
  obtain ⟨cur, h1, _⟩ := h.ex
  exact (Array.getElem?_eq_some_iff.1 h1).1
theorem OwnAt.block {e g cap : Nat} {w w' : World} {xs : List α} (h : OwnAt enc k e w g cap xs) (hb : w'.heap[g]? = w.heap[g]?) : OwnAt enc k e w' g cap xs := by
  obtain ⟨cur, h1, h2, h3⟩ := h.ex
  exact ⟨⟨cur, hb.trans h1, h2, h3⟩, h.le, h.max⟩
theorem OwnAt.row {e g cap : Nat} {w : World} {xs : List α} (hk : ∀ x, (enc x).length = k) (h : OwnAt enc k e w g cap xs) (i : Nat) (hi : i < xs.length) : w.rangeAt g (i * k) (enc xs[i]) := by
  have h1 := (h.own (B := 0) hk (Nat.zero_le _)).read hk
  obtain ⟨_, a, c, e', _, hc⟩ := h1
  cases e'
  obtain ⟨b, off, e2, _, hc⟩ := hc (by omega)
  cases e2
  have := hc i hi
  rwa [Nat.zero_add] at this
theorem OwnAt.there {e g cap : Nat} {w : World} {xs : List α} (h : OwnAt enc k e w g cap xs) (i : Nat) (hi : i < cap) : w.there g (i * k) k := by
  obtain ⟨cur, h1, h2, h3⟩ := h.ex
  have := Nat.mul_le_mul_right k (show i + 1 ≤ cap from hi)
  rw [Nat.add_mul, Nat.one_mul] at this
  intro j hj
  have hlt : i * k + j < cur.size := by omega
  simp [World.cell?, World.frozen?, h1, hlt]
/-- A row is laid over another one. -/
theorem OwnAt.set {e g cap : Nat} {w : World} {xs : List α} (hk : ∀ x, (enc x).length = k) (hk0 : 0 < k) (h : OwnAt enc k e w g cap xs) (i : Nat) (hi : i < xs.length) (x : α) : OwnAt enc k e (w.setCells g (i * k) (enc x)) g cap (xs.set i x) := by
  obtain ⟨cur, h1, h2, h3⟩ := h.ex
  refine ⟨⟨_, heap_setCells g e (enc x) (i * k) w cur h1, ?_, ?_⟩, by simpa using h.le, h.max⟩
  · simpa [setL_len] using h2
  · rw [← flat_set hk hk0 xs i hi x, ← h3, List.length_set]
    have hlen : xs.length * k ≤ cur.toList.length := by
      have := Nat.mul_le_mul_right k h.le
      simpa [h2] using this
    have hb := Nat.mul_le_mul_right k (show i + 1 ≤ xs.length from hi)
    rw [Nat.add_mul, Nat.one_mul] at hb
    apply List.ext_getElem?
    intro t
    rw [List.getElem?_take, setL_at _ _ _ _ (by rw [hk]; omega), setL_at _ _ _ _ (by rw [hk, List.length_take]; omega), List.getElem?_take]
    by_cases ht : t < xs.length * k
    · simp only [ht, if_true]
    · simp only [ht, if_false]
      rw [if_neg]
      rw [hk]; omega
/-- Fewer of them. -/
theorem OwnAt.take {e g cap : Nat} {w : World} {xs : List α} (hk : ∀ x, (enc x).length = k) (h : OwnAt enc k e w g cap xs) (n : Nat) (hn : n ≤ xs.length) : OwnAt enc k e w g cap (xs.take n) := by
  obtain ⟨cur, h1, h2, h3⟩ := h.ex
  have hl : (xs.take n).length = n := by simp; omega
  refine ⟨⟨cur, h1, h2, ?_⟩, by rw [hl]; have := h.le; omega, h.max⟩
  have e1 : (xs.take n).flatMap enc = (xs.flatMap enc).take (n * k) := by
    have := congrArg (List.flatMap enc) (List.take_append_drop n xs)
    rw [List.flatMap_append] at this
    have e3 : ((xs.take n).flatMap enc).length = n * k := by rw [flat_len hk, hl]
    rw [← this]
    exact (List.take_left' e3).symm
  rw [e1, hl, ← h3, List.take_take, Nat.min_eq_left (Nat.mul_le_mul_right k hn)]
/-- What lies behind the first n of them is written over. -/
theorem OwnAt.tail {e g cap : Nat} {w : World} {xs : List α} (hk : ∀ x, (enc x).length = k) (h : OwnAt enc k e w g cap xs) (vs : List Value) : OwnAt enc k e (w.setCells g (xs.length * k) vs) g cap xs := by
  obtain ⟨cur, h1, h2, h3⟩ := h.ex
  refine ⟨⟨_, heap_setCells g e vs _ w cur h1, by simpa [setL_len] using h2, ?_⟩, h.le, h.max⟩
  rw [← h3]
  apply List.ext_getElem?
  intro t
  rw [List.getElem?_take, List.getElem?_take]
  by_cases ht : t < xs.length * k
  · simp only [ht, if_true]
    have keep : ∀ (vs : List Value) (o : Nat) (l : List Value), t < o → (setL l o vs)[t]? = l[t]? := by
      intro vs
      induction vs with
      | nil => intro o l _; rfl
      | cons v r ih => intro o l ho; rw [setL, ih (o + 1) _ (by omega), List.getElem?_set_ne (by omega)]
    exact keep vs _ _ ht
  · simp only [ht, if_false]
end

theorem own_none {α : Type} {enc : α → List Value} {k e : Nat} (w : World) (B : Nat) (hB : B ≤ w.heap.size) : Own enc k e (w.alloc (.cells #[] e)) B (.slice (some ⟨w.heap.size, 0, none⟩) 0 0) [] :=
  ⟨by simp, .inr ⟨w.heap.size, 0, #[], rfl, hB, alloc_at w _, by simp, by simp [maxLen], by simp, by simp⟩⟩
theorem Sl.empty_of_nil {α : Type} {enc : α → List Value} {k : Nat} {w : World} {n c : Nat} {xs : List α} (h : Sl enc k w (.slice none n c) xs) : xs = [] ∧ n = 0 ∧ c = 0 := by
  obtain ⟨_, a, cap, e, hn, hc⟩ := h
  cases e
  have h0 : xs.length = 0 := by
    rcases Nat.eq_zero_or_pos xs.length with h0 | h0
    · exact h0
    · obtain ⟨b, off, e', _⟩ := hc h0
      cases e'
  exact ⟨List.eq_nil_of_length_eq_zero h0, h0, hn rfl⟩

/-- 'l = append(l, n)' of one number, in the fence. -/
theorem app1I_in {F : Fence} {n : Nat} {P : Program} {wr : World} {ops : Array Oper} {rest : List Oper} {o : Oper} {a : Act} {Q : Exit → Act → World → Prop} (hgd : o.guard = none) (s x : Operand) (t : TypeId)
    (ho : o.op = .call { callee := .builtin .append, args := #[s, x], argTypes := #[t, t] })
    (B : Nat) (ht : P.underlying t = some (.slice 3)) (hi : (P.info? 3).map (fun i => (i.zero, i.size, i.bytes)) = some (some (.int .i64 0), 1, 8))
    (v : Value) (ns : List Int) (hs : a.eval s = v) (hown : Own ic 1 3 wr B v ns) (z : Int) (k : Nat) (hn : k = wr.heap.size) (hx : a.eval x = .slice (some ⟨k, 0, none⟩) 1 1)
    (h63 : ns.length + 1 ≤ maxLen) (hb : (ns.length + 1) * 8 ≤ 140737488355328) (hB : B ≤ wr.heap.size)
    (h : ∀ v' w', Own ic 1 3 w' B v' (ns ++ [z]) → Kept B 3 wr w' → wpListIn F n P ops Q rest (a.put o.dst v') w') : wpListIn F n P ops Q (o :: rest) a (wr.alloc (.cells #[.int .i64 z] 3)) := by
  subst hn
  obtain ⟨i0, hi, hz0, hz1, hz2⟩ := info_parts hi
  have hown2 : Own ic 1 3 (wr.alloc (.cells #[.int .i64 z] 3)) B v ns := hown.below ((Below.refl _ _).alloc (Nat.le_refl _) _)
  refine wpListIn_append_own _ hgd s x t ho B 3 i0 (.int .i64 0) 1 8 ht hi hz0 hz1 hz2 rfl (by decide) v ns.length (ns.flatMap ic) hs hown2 ⟨wr.heap.size, 0, none⟩ 1 1 [.int .i64 z] hx rfl ?_ ?_ h63 hb (by simp; omega) ?_
  · intro j u hj
    match j, hj with
    | 0, hj => simp at hj; subst hj; rw [add_plain', World.cell?_alloc_at _ _ _ _ rfl]; rfl
  · intro u hu; simp at hu; subst hu; rfl
  · intro v' w' hown' hg _
    refine h v' w' ?_ ((Kept.of_below hB ((Below.refl _ _).alloc (Nat.le_refl _) _)).trans (Kept.grown (by simp; omega) hown2 hg))
    unfold Own
    rw [List.length_append, List.flatMap_append]
    exact hown'
theorem below_putObj {B : Nat} {w W : World} (h : Below B w W) (l : Nat) (o : Obj) (hl : B ≤ l) : Below B w (W.putObj l o) :=
  ⟨h.os, h.tape, h.output, by rw [World.putObj_size]; exact h.size, fun j hj => (World.putObj_heap_other (by omega)).trans (h.block j hj)⟩
theorem results_tmp {P : Program} {fn : Func} {t : Tmp} (h : fn.results = #[.tmp t]) (tmps : Array Value) (w : World) : (results fn tmps).run P w = .ok (tmps.getD t undef) w := by
  simp [results, h]
theorem Own.setOther {α : Type} {enc : α → List Value} {k e B : Nat} {W : World} {v : Value} {xs : List α} (h : Own enc k e W B v xs) {N : Nat} (hN : v.ownBlock ≠ some N) (o : Nat) (u : Value) : Own enc k e (W.setCell ⟨N, o, none⟩ u) B v xs := by
  obtain ⟨h1, h2⟩ := id h
  refine ⟨h1, ?_⟩
  rcases h2 with ⟨rfl, h0⟩ | ⟨g, cap, cur, rfl, hB, hg, hr⟩
  · exact .inl ⟨rfl, h0⟩
  · have hne : g ≠ N := fun e => hN (by rw [e]; rfl)
    exact .inr ⟨g, cap, cur, rfl, hB, (heap_setCell_other _ _ _ _ hne).trans hg, hr⟩
theorem Own.putObj {α : Type} {enc : α → List Value} {k e B : Nat} {W : World} {v : Value} {xs : List α} (h : Own enc k e W B v xs) (l : Nat) (o : Obj) (hnc : ∀ c t f, W.heap[l]? ≠ some (Obj.cells c t f)) : Own enc k e (W.putObj l o) B v xs := by
  obtain ⟨h1, h2⟩ := id h
  refine ⟨h1, ?_⟩
  rcases h2 with ⟨rfl, h0⟩ | ⟨g, cap, cur, rfl, hB, hg, hr⟩
  · exact .inl ⟨rfl, h0⟩
  · have hne : g ≠ l := by rintro rfl; exact hnc _ _ _ hg
    exact .inr ⟨g, cap, cur, rfl, hB, (World.putObj_heap_other hne).trans hg, hr⟩

end Go.Proofs.Ytcofmfjhgbihkaa.crush
