/- Words of the flights' layer: frames and ways as rows of cells; slices of them. -/
import Derived.Test.YtalnmbfmfeaohaaGreatRows
import Derived.Test.YtalnmbfmfeaohaaGreatOwn
import Derived.Laws.CopyOwn
import Derived.Deep.MidRow
import Derived.Deep.QuietTactic
import Derived.Deep.RegionHeld3
import Derived.Deep.Cut
import Derived.Laws.NewBlocks
import Derived.Laws.StructEq
import Derived.Lib.Strings
namespace Go.Proofs.YtalnmbfmfeaohaaGreat.flight
open Go.RowKit
open Go.Proofs.YtalnmbfmfeaohaaGreat.kit Go.Proofs.YtalnmbfmfeaohaaGreat.own
set_option linter.unusedVariables false

/-- A frame. -/
structure Frm where
  num : Int
  src : Int
  dst : Int
  body : ByteArray
/-- A way. -/
abbrev Wy := Int × Int
def fc (x : Frm) : List Value := [.int .i64 x.num, .int .i64 x.src, .int .i64 x.dst, .string x.body]
def wc (x : Wy) : List Value := [.int .i64 x.1, .int .i64 x.2]
def ic (x : Int) : List Value := [.int .i64 x]
theorem fc_len (x : Frm) : (fc x).length = 4 := rfl
theorem wc_len (x : Wy) : (wc x).length = 2 := rfl
theorem ic_len (x : Int) : (ic x).length = 1 := rfl
theorem fc_one (x : Frm) : ∀ v ∈ fc x, v.oneCell' = true := by
  intro v hv
  simp [fc] at hv
  rcases hv with rfl | rfl | rfl | rfl <;> rfl
theorem wc_one (x : Wy) : ∀ v ∈ wc x, v.oneCell' = true := by
  intro v hv
  simp [wc] at hv
  rcases hv with rfl | rfl <;> rfl
theorem ic_one (x : Int) : ∀ v ∈ ic x, v.oneCell' = true := by
  intro v hv
  simp [ic] at hv
  subst hv; rfl

theorem infoFrm : (Tryz.prog.info? 38).map (fun i => (i.zero, i.size, i.bytes)) = some (some (.agg #[.int .i64 0, .int .i64 0, .int .i64 0, .string { data := #[] }]), 4, 40) := by kernel_rfl
theorem infoWay : (Tryz.prog.info? 40).map (fun i => (i.zero, i.size, i.bytes)) = some (some (.agg #[.int .i64 0, .int .i64 0]), 2, 16) := by kernel_rfl
theorem infoInt : (Tryz.prog.info? 3).map (fun i => (i.zero, i.size, i.bytes)) = some (some (.int .i64 0), 1, 8) := by kernel_rfl
theorem sizeFrm : (Tryz.prog.info? 38).map (·.size) = some 4 := by kernel_rfl
theorem sizeWay : (Tryz.prog.info? 40).map (·.size) = some 2 := by kernel_rfl
theorem sizeFlt : (Tryz.prog.info? 25).map (·.size) = some 3 := by kernel_rfl

/-- The slice value v reads, in the world w, as the rows xs. -/
def Sl {α : Type} (enc : α → List Value) (k : Nat) (w : World) (v : Value) (xs : List α) : Prop :=
  xs.length ≤ 9223372036854775807 ∧ ∃ (a : Option Addr) (cap : Nat), v = .slice a xs.length cap ∧ (a = none → cap = 0) ∧
    (0 < xs.length → ∃ b off, a = some ⟨b, off, none⟩ ∧ b < w.heap.size ∧ ∀ j (h : j < xs.length), w.rangeAt b (off + j * k) (enc xs[j]))

section
variable {α : Type} {enc : α → List Value} {k : Nat}

theorem Sl.nil (w : World) : Sl enc k w (.slice none 0 0) [] := ⟨by simp, none, 0, rfl, fun _ => rfl, fun h => by simp at h⟩
theorem range_keep {w w' : World} {b o : Nat} {cs : List Value} (h : w.rangeAt b o cs) (hlt : b < w.heap.size) (hb : Below w.heap.size w w') : w'.rangeAt b o cs := fun j v hv =>
  (hb.cell (p := ⟨b, o + j, none⟩) hlt).trans (h j v hv)
theorem Sl.keep {w w' : World} {v : Value} {xs : List α} (h : Sl enc k w v xs) (hb : Below w.heap.size w w') : Sl enc k w' v xs := by
  obtain ⟨hl, a, cap, rfl, hn, hc⟩ := h
  refine ⟨hl, a, cap, rfl, hn, fun h0 => ?_⟩
  obtain ⟨b, off, rfl, hlt, hcell⟩ := hc h0
  exact ⟨b, off, rfl, Nat.lt_of_lt_of_le hlt hb.size, fun j hj => range_keep (hcell j hj) hlt hb⟩

theorem flat_len (hk : ∀ x, (enc x).length = k) : ∀ xs : List α, (xs.flatMap enc).length = xs.length * k
  | [] => by simp
  | x :: xs => by rw [List.flatMap_cons, List.length_append, hk, flat_len hk xs, List.length_cons, Nat.succ_mul]; omega
theorem flat_at (hk : ∀ x, (enc x).length = k) : ∀ (xs : List α) (j i : Nat) (hj : j < xs.length), i < k → (xs.flatMap enc)[j * k + i]? = (enc xs[j])[i]?
  | x :: xs, 0, i, _, hi => by
    rw [List.flatMap_cons, Nat.zero_mul, Nat.zero_add, List.getElem?_append_left (by rw [hk]; exact hi)]; rfl
  | x :: xs, j + 1, i, hj, hi => by
    have hj' : j < xs.length := by simpa using hj
    rw [List.flatMap_cons, List.getElem?_append_right (by rw [hk, Nat.succ_mul]; omega), hk, show (j + 1) * k + i - k = j * k + i by rw [Nat.succ_mul]; omega, flat_at hk xs j i hj' hi]
    rfl

/-- The slice value v is the call's own (from block B on) and reads as the rows xs. -/
def Own (enc : α → List Value) (k e : Nat) (w : World) (B : Nat) (v : Value) (xs : List α) : Prop := w.ownsRow B e k v xs.length (xs.flatMap enc)

theorem Own.nil (w : World) (e B : Nat) : Own enc k e w B (.slice none 0 0) [] := World.ownsRow_nil _ _ _ _
theorem Own.len {w : World} {e B : Nat} {v : Value} {xs : List α} (h : Own enc k e w B v xs) : xs.length ≤ maxLen := by
  obtain ⟨h1, h2⟩ := id h
  rcases h2 with ⟨rfl, h0⟩ | ⟨g, cap, cur, rfl, hB, hg, hc, hm, hs, ht⟩ <;> omega
theorem Own.read {w : World} {e B : Nat} {v : Value} {xs : List α} (hk : ∀ x, (enc x).length = k) (h : Own enc k e w B v xs) : Sl enc k w v xs := by
  obtain ⟨h1, h2⟩ := id h
  rcases h2 with ⟨rfl, h0⟩ | ⟨g, cap, cur, rfl, hB, hg, hc, hm, hs, ht⟩
  · obtain rfl : xs = [] := List.eq_nil_of_length_eq_zero h0
    exact Sl.nil _
  · refine ⟨by unfold maxLen at hm; omega, some ⟨g, 0, none⟩, cap, rfl, fun h => (by cases h), fun _ => ⟨g, 0, rfl, (Array.getElem?_eq_some_iff.1 hg).1, fun j hj i u hu => ?_⟩⟩
    have hi : i < k := by have := (List.getElem?_eq_some_iff.1 hu).1; rwa [hk] at this
    have := World.ownsRow.cells h (g := g) rfl (j * k + i) u (by rw [flat_at hk xs j i hj hi]; exact hu)
    rw [add_plain'] at this
    rw [Nat.zero_add]
    simpa using this
theorem Own.below {w w' : World} {e B : Nat} {v : Value} {xs : List α} (h : Own enc k e w B v xs) (hb : Below w.heap.size w w') : Own enc k e w' B v xs := by
  obtain ⟨h1, h2⟩ := id h
  refine ⟨h1, ?_⟩
  rcases h2 with ⟨rfl, h0⟩ | ⟨g, cap, cur, rfl, hB, hg, hr⟩
  · exact .inl ⟨rfl, h0⟩
  · exact .inr ⟨g, cap, cur, rfl, hB, (hb.block g (Array.getElem?_eq_some_iff.1 hg).1).trans hg, hr⟩
theorem Own.mono {w : World} {e B B' : Nat} {v : Value} {xs : List α} (h : Own enc k e w B v xs) (hB : B' ≤ B) : Own enc k e w B' v xs := by
  obtain ⟨h1, h2⟩ := id h
  refine ⟨h1, ?_⟩
  rcases h2 with ⟨rfl, h0⟩ | ⟨g, cap, cur, rfl, hb, hr⟩
  · exact .inl ⟨rfl, h0⟩
  · exact .inr ⟨g, cap, cur, rfl, by omega, hr⟩
theorem Own.slice {w : World} {e B : Nat} {v : Value} {xs : List α} (h : Own enc k e w B v xs) : ∃ a c, v = .slice a xs.length c := by
  rcases h.2 with ⟨rfl, h0⟩ | ⟨g, cap, cur, rfl, _⟩
  · exact ⟨none, 0, by rw [h0]⟩
  · exact ⟨_, _, rfl⟩
theorem Sl.slice {w : World} {v : Value} {xs : List α} (h : Sl enc k w v xs) : ∃ a c, v = .slice a xs.length c := by
  obtain ⟨_, a, c, rfl, _⟩ := h
  exact ⟨a, c, rfl⟩

/-- 'T{..}' of one row, as a slice. -/
theorem sl_new (hk : ∀ x, (enc x).length = k) (w : World) (y : α) (e n : Nat) (hn : n = w.heap.size) : Sl enc k (w.alloc (.cells (enc y).toArray e)) (.slice (some ⟨n, 0, none⟩) 1 1) [y] := by
  subst hn
  refine ⟨by simp, _, _, rfl, fun h => (by cases h), fun _ => ⟨w.heap.size, 0, rfl, by simp, fun j hj i u hu => ?_⟩⟩
  obtain rfl : j = 0 := by simpa using hj
  rw [World.cell?_alloc_at _ _ _ _ rfl]
  simpa using hu

/-- 'v = append(v, x...)' of rows that are read, nil or not, onto a slice of the call's own. -/
theorem appSl (hk : ∀ x, (enc x).length = k) (h1 : ∀ x, ∀ v ∈ enc x, v.oneCell' = true) (hk0 : 0 < k) {P : Program} {wr : World} {ops : Array Oper} {rest : List Oper} {o : Oper} {a : Act} {Q : Exit → Act → World → Prop} (hgd : o.guard = none) (s x : Operand) (t : TypeId)
    (ho : o.op = .call { callee := .builtin .append, args := #[s, x], argTypes := #[t, t] })
    (B e : Nat) (z : Value) (hz : z.cells.size = k) (bytes : Nat) (ht : P.underlying t = some (.slice e)) (hi : (P.info? e).map (fun i => (i.zero, i.size, i.bytes)) = some (some z, k, bytes))
    (v : Value) (xs : List α) (hs : a.eval s = v) (hown : Own enc k e wr B v xs) (vx : Value) (ys : List α) (hx : a.eval x = vx) (hr : Sl enc k wr vx ys)
    (h63 : xs.length + ys.length ≤ maxLen) (hb : (xs.length + ys.length) * bytes ≤ 140737488355328) (hB : B ≤ wr.heap.size)
    (h : ∀ v' w', Own enc k e w' B v' (xs ++ ys) → Kept B e wr w' → wpList P ops Q rest (a.put o.dst v') w') : wpList P ops Q (o :: rest) a wr := by
  obtain ⟨hl, ax, cx, rfl, hnil, hc⟩ := hr
  obtain ⟨i0, hi, hz0, hz1, hz2⟩ := info_parts hi
  cases ax with
  | none =>
    obtain rfl := hnil rfl
    have h0 : ys.length = 0 := by
      rcases Nat.eq_zero_or_pos ys.length with h0 | h0
      · exact h0
      · obtain ⟨b, off, e', _⟩ := hc h0
        cases e'
    obtain rfl : ys = [] := List.eq_nil_of_length_eq_zero h0
    refine wpList_append_own_none hgd s x t ho B e i0 k ht hi v xs.length _ hs hown hx ?_
    exact h v wr (by rw [List.append_nil]; exact hown) (Kept.refl _ _ _)
  | some ax =>
    obtain ⟨b, off, spot⟩ := ax
    have hn' : ∀ v' : Value, ∀ w' : World, w'.ownsRow B e k v' (xs.length + ys.length) (xs.flatMap enc ++ ys.flatMap enc) → Own enc k e w' B v' (xs ++ ys) := by
      intro v' w' hh
      unfold Own
      rw [List.length_append, List.flatMap_append]
      exact hh
    have news : ∀ (j : Nat) u, (ys.flatMap enc)[j]? = some u → wr.cell? ((⟨b, off, spot⟩ : Addr).add j) = some u := by
      intro j u hu
      have hj : j < ys.length * k := by have := (List.getElem?_eq_some_iff.1 hu).1; rwa [flat_len hk] at this
      have hq : j / k < ys.length := (Nat.div_lt_iff_lt_mul hk0).2 hj
      obtain ⟨b', off', e', hlt, hcell⟩ := hc (Nat.lt_of_le_of_lt (Nat.zero_le _) hq)
      cases e'
      have hd : j = (j / k) * k + j % k := (Nat.div_add_mod' j k).symm
      rw [hd, flat_at hk ys (j / k) (j % k) hq (Nat.mod_lt _ hk0)] at hu
      rw [add_plain', hd, ← Nat.add_assoc]
      exact hcell (j / k) hq (j % k) u hu
    have hone : ∀ u ∈ ys.flatMap enc, u.oneCell' = true := by
      intro u hu
      obtain ⟨y, _, hy⟩ := List.mem_flatMap.1 hu
      exact h1 y u hy
    refine wpList_append_own wr hgd s x t ho B e i0 z k bytes ht hi hz0 hz1 hz2 hz hk0 v xs.length (xs.flatMap enc) hs hown ⟨b, off, spot⟩ ys.length cx (ys.flatMap enc) hx (flat_len hk ys) news hone h63 hb hB ?_
    intro v' w' hown' hg _
    exact h v' w' (hn' v' w' hown') (Kept.grown hB hown hg)

end

theorem fcells_at {w : World} {b o : Nat} {x : Frm} (h : w.rangeAt b o (fc x)) : w.cell? ⟨b, o, none⟩ = some (.int .i64 x.num) ∧ w.cell? ⟨b, o + 1, none⟩ = some (.int .i64 x.src) ∧ w.cell? ⟨b, o + 2, none⟩ = some (.int .i64 x.dst) ∧ w.cell? ⟨b, o + 3, none⟩ = some (.string x.body) :=
  ⟨h 0 _ rfl, h 1 _ rfl, h 2 _ rfl, h 3 _ rfl⟩
theorem wcells_at {w : World} {b o : Nat} {x : Wy} (h : w.rangeAt b o (wc x)) : w.cell? ⟨b, o, none⟩ = some (.int .i64 x.1) ∧ w.cell? ⟨b, o + 1, none⟩ = some (.int .i64 x.2) :=
  ⟨h 0 _ rfl, h 1 _ rfl⟩

/-- A flight. -/
structure Flt where
  next : Int
  list : List Frm
  cut : List Wy
/-- The value v reads, in the world w, as the flight f. -/
def FlR (w : World) (v : Value) (f : Flt) : Prop := ∃ vl vc, v = .agg #[.int .i64 f.next, vl, vc] ∧ Sl fc 4 w vl f.list ∧ Sl wc 2 w vc f.cut
theorem FlR.keep {w w' : World} {v : Value} {f : Flt} (h : FlR w v f) (hb : Below w.heap.size w w') : FlR w' v f := by
  obtain ⟨vl, vc, rfl, h1, h2⟩ := h
  exact ⟨vl, vc, rfl, h1.keep hb, h2.keep hb⟩

end Go.Proofs.YtalnmbfmfeaohaaGreat.flight
