/- What a call keeps of the blocks that it may not touch; rows of its own outside of them. -/
import Derived.Test.YtcofmfjhgbihkaaRows
import Derived.Laws.IdiomCopy
import Derived.Deep.RegionLaw
import Derived.Test.YtcofmfjhgbihkaaRuleApp
namespace Go.Proofs.Ytcofmfjhgbihkaa.crush
open Go.RowKit
open Go.Proofs.Ytcofmfjhgbihkaa.kit Go.Proofs.Ytcofmfjhgbihkaa.own
set_option linter.unusedVariables false

section
variable {α : Type} {enc : α → List Value} {k : Nat}
/-- Rows written into the middle of a row of the call's own. -/
theorem OwnAt.put (hk : ∀ x, (enc x).length = k) {e g cap : Nat} {w : World} {xs : List α} (h : OwnAt enc k e w g cap xs) (j : Nat) (ys : List α) (hf : j + ys.length ≤ xs.length) :
    OwnAt enc k e (w.setCells g (j * k) (ys.flatMap enc)) g cap (xs.take j ++ ys ++ xs.drop (j + ys.length)) := by
  obtain ⟨cur, h1, h2, h3⟩ := h.ex
  have hlen : (xs.take j ++ ys ++ xs.drop (j + ys.length)).length = xs.length := by simp; omega
  have hle := h.le
  have hyl := flat_len hk ys
  have hxl := flat_len hk xs
  have hb : j * k + (ys.flatMap enc).length ≤ cur.toList.length := by
    have hcl : cur.toList.length = cap * k := by simpa using h2
    rw [hyl, hcl, ← Nat.add_mul]
    exact Nat.mul_le_mul_right _ (by omega)
  refine ⟨⟨_, heap_setCells g e _ _ w cur h1, by simpa [setL_len] using h2, ?_⟩, by rw [hlen]; exact hle, h.max⟩
  rw [hlen]
  apply List.ext_getElem?
  intro t
  have hmul : j * k + ys.length * k ≤ xs.length * k := by rw [← Nat.add_mul]; exact Nat.mul_le_mul_right _ hf
  rw [List.getElem?_take, setL_at _ _ _ _ hb, hyl, List.flatMap_append, List.flatMap_append]
  have hx : ∀ t, t < xs.length * k → cur.toList[t]? = (xs.flatMap enc)[t]? := fun t ht => by
    rw [← h3, List.getElem?_take, if_pos ht]
  have htk : ((xs.take j).flatMap enc).length = j * k := by rw [flat_len hk, List.length_take, Nat.min_eq_left (by omega)]
  have hta : xs.flatMap enc = (xs.take j).flatMap enc ++ (xs.drop j).flatMap enc := by rw [← List.flatMap_append, List.take_append_drop]
  have htb : xs.flatMap enc = (xs.take (j + ys.length)).flatMap enc ++ (xs.drop (j + ys.length)).flatMap enc := by rw [← List.flatMap_append, List.take_append_drop]
  have htl : ((xs.take (j + ys.length)).flatMap enc).length = (j + ys.length) * k := by rw [flat_len hk, List.length_take, Nat.min_eq_left hf]
  by_cases ht : t < xs.length * k
  · rw [if_pos ht]
    by_cases h5 : j * k ≤ t ∧ t < j * k + ys.length * k
    · rw [if_pos h5, List.getElem?_append_left (by rw [List.length_append, htk, hyl]; exact h5.2), List.getElem?_append_right (by rw [htk]; exact h5.1), htk]
    · rw [if_neg h5, hx t ht]
      rcases Nat.lt_or_ge t (j * k) with h6 | h6
      · rw [List.getElem?_append_left (by rw [List.length_append, htk, hyl]; omega), List.getElem?_append_left (by rw [htk]; exact h6), hta, List.getElem?_append_left (by rw [htk]; exact h6)]
      · have h7 : j * k + ys.length * k ≤ t := by omega
        rw [List.getElem?_append_right (by rw [List.length_append, htk, hyl]; exact h7), List.length_append, htk, hyl, htb, List.getElem?_append_right (by rw [htl, Nat.add_mul]; exact h7), htl, Nat.add_mul]
  · rw [if_neg ht, List.getElem?_eq_none]
    rw [List.length_append, List.length_append, htk, hyl, flat_len hk, List.length_drop, Nat.sub_mul, Nat.add_mul]
    omega
theorem OwnAt.below' {e g cap B : Nat} {w w0 : World} {xs : List α} (hb : Below B w0 w) (hg : B ≤ g) (o : Nat) (vs : List Value) : Below B w0 (w.setCells g o vs) := Below.setCells hb hg o vs
/-- What stands in a row, cell by cell. -/
theorem OwnAt.cells {e g cap : Nat} {w : World} {xs : List α} (h : OwnAt enc k e w g cap xs) (t : Nat) (v : Value) (ht : t < xs.length * k) (hv : (xs.flatMap enc)[t]? = some v) : w.cell? ⟨g, t, none⟩ = some v := by
  obtain ⟨cur, h1, h2, h3⟩ := h.ex
  have : cur.toList[t]? = some v := by rw [← hv, ← h3, List.getElem?_take, if_pos ht]
  simp only [World.cell?, h1]
  simpa using this
theorem OwnAt.some {e g cap : Nat} {w : World} {xs : List α} (h : OwnAt enc k e w g cap xs) (t : Nat) (ht : t < cap * k) : (w.cell? ⟨g, t, none⟩).isSome = true := by
  obtain ⟨cur, h1, h2, h3⟩ := h.ex
  simp only [World.cell?, h1]
  simp [h2, ht]
theorem OwnAt.thaw {e g cap : Nat} {w : World} {xs : List α} (h : OwnAt enc k e w g cap xs) (t : Nat) : w.frozen? ⟨g, t, none⟩ = false := by
  obtain ⟨cur, h1, h2, h3⟩ := h.ex
  simp [World.frozen?, h1]
end

/-- 'copy' of some rows of k cells, in cells. -/
theorem run_copy_m {P : Program} (w : World) (dT sT ty elem : TypeId) (g o dLen dCap : Nat) (a : Addr) (sLen sCap k m : Nat) (cs : List Value)
    (hu : P.underlying dT = some (.slice elem)) (hs : (P.info? elem).map (·.size) = some k) (hm : Nat.min sLen dLen = m) (hn : cs.length = m * k)
    (hsrc : ∀ j v, cs[j]? = some v → w.cell? (a.add j) = some v) (hc : ∀ j, j < cs.length → (w.cell? ⟨g, o + j, none⟩).isSome = true) (hf : ∀ j, j < cs.length → w.frozen? ⟨g, o + j, none⟩ = false) (h1 : ∀ v ∈ cs, v.oneCell' = true) :
    (Builtin.copy_ #[dT, sT] ty #[.slice (some ⟨g, o, none⟩) dLen dCap, .slice (some a) sLen sCap]).run P w = .ok (goInt m) (w.setCells g o cs) := by
  have hl := run_loadCells_list (P := P) w a cs hsrc
  have hst := run_storeCells_cells (P := P) g o cs 0 w (by simpa using hc) (by simpa using hf) h1
  cases hq : P.info? elem with
  | none => simp [hq] at hs
  | some i =>
    have hi : i.size = k := by simpa [hq] using hs
    simp [Builtin.copy_, run_underlying hu, Builtin.lenOf, Builtin.firstCells, sizeOf, typeInfo, hq, hi, hm, ← hn, hl, hst]
/-- .. as an operation in a list. -/
theorem wpList_copy_m {P : Program} {w : World} {ops : Array Oper} {rest : List Oper} {o : Oper} {a : Act} {Q : Exit → Act → World → Prop} (hgd : o.guard = none) (d s : Operand) (dT sT : TypeId)
    (ho : o.op = .call { callee := .builtin .copy, args := #[d, s], argTypes := #[dT, sT] }) (elem : TypeId) (hu : P.underlying dT = some (.slice elem)) (k : Nat) (hsz : (P.info? elem).map (·.size) = some k)
    (g off dLen dCap : Nat) (ad : Addr) (sLen sCap m : Nat) (hd : a.eval d = .slice (some ⟨g, off, none⟩) dLen dCap) (hs : a.eval s = .slice (some ad) sLen sCap) (cs : List Value) (hm : Nat.min sLen dLen = m) (hn : cs.length = m * k)
    (hsrc : ∀ j v, cs[j]? = some v → w.cell? (ad.add j) = some v) (hc : ∀ j, j < cs.length → (w.cell? ⟨g, off + j, none⟩).isSome = true) (hf : ∀ j, j < cs.length → w.frozen? ⟨g, off + j, none⟩ = false) (h1 : ∀ v ∈ cs, v.oneCell' = true)
    (h : wpList P ops Q rest (a.put o.dst (goInt m)) (w.setCells g off cs)) : wpList P ops Q (o :: rest) a w := by
  refine wpList_plain hgd fun K hK => ?_
  have hrun := run_copy_m (P := P) w dT sT o.type elem g off dLen dCap ad sLen sCap k m cs hu hsz hm hn hsrc hc hf h1
  unfold Oper.wp
  simp [execOp, ho, resolve, invoke, builtin, hd, hs, hrun, Result.andThen]
  exact hK _ _ h
/-- .. and as a step of a region that draws its order. -/
theorem step_copy_m {P : Program} {ops : Array Oper} {o : Oper} {a : Act} {w : World} {K : Act → World → Prop} {Q : Exit → Act → World → Prop} {E : Prop} (hgd : o.guard = none) (d s : Operand) (dT sT : TypeId)
    (ho : o.op = .call { callee := .builtin .copy, args := #[d, s], argTypes := #[dT, sT] }) (elem : TypeId) (hu : P.underlying dT = some (.slice elem)) (k : Nat) (hsz : (P.info? elem).map (·.size) = some k)
    (g off dLen dCap : Nat) (ad : Addr) (sLen sCap m : Nat) (hd : a.eval d = .slice (some ⟨g, off, none⟩) dLen dCap) (hs : a.eval s = .slice (some ad) sLen sCap) (cs : List Value) (hm : Nat.min sLen dLen = m) (hn : cs.length = m * k)
    (hsrc : ∀ j v, cs[j]? = some v → w.cell? (ad.add j) = some v) (hc : ∀ j, j < cs.length → (w.cell? ⟨g, off + j, none⟩).isSome = true) (hf : ∀ j, j < cs.length → w.frozen? ⟨g, off + j, none⟩ = false) (h1 : ∀ v ∈ cs, v.oneCell' = true)
    (h : K (a.put o.dst (goInt m)) (w.setCells g off cs)) : if Region.wanted o (yielded ops a.tmps) = true then Oper.wp P o a w K Q else E := by
  have hw : Region.wanted o (yielded ops a.tmps) = true := by simp [Region.wanted, hgd]
  rw [if_pos hw]
  have hrun := run_copy_m (P := P) w dT sT o.type elem g off dLen dCap ad sLen sCap k m cs hu hsz hm hn hsrc hc hf h1
  unfold Oper.wp
  simp [execOp, ho, resolve, invoke, builtin, hd, hs, hrun, Result.andThen]
  exact h
/-- The blocks that B speaks of stay as they are. -/
structure Far (B : Nat → Prop) (w w' : World) : Prop where
  os : w'.os = w.os
  tape : w'.tape = w.tape
  output : w'.output = w.output
  size : w.heap.size ≤ w'.heap.size
  block : ∀ k, B k → w'.heap[k]? = w.heap[k]?
/-- All that B speaks of lies in the world. -/
def In (B : Nat → Prop) (w : World) : Prop := ∀ k, B k → k < w.heap.size
theorem In.mono {B : Nat → Prop} {w w' : World} (h : In B w) (hs : w.heap.size ≤ w'.heap.size) : In B w' := fun k hk => Nat.lt_of_lt_of_le (h k hk) hs
theorem In.le {B : Nat} {w : World} (h : B ≤ w.heap.size) : In (fun k => k < B) w := fun k hk => Nat.lt_of_lt_of_le hk h
theorem Far.refl (B : Nat → Prop) (w : World) : Far B w w := ⟨rfl, rfl, rfl, Nat.le_refl _, fun _ _ => rfl⟩
theorem Far.trans {B : Nat → Prop} {a b c : World} (h : Far B a b) (k : Far B b c) : Far B a c :=
  ⟨k.os.trans h.os, k.tape.trans h.tape, k.output.trans h.output, Nat.le_trans h.size k.size, fun i hi => (k.block i hi).trans (h.block i hi)⟩
theorem Far.of {B : Nat → Prop} {N : Nat} {w w' : World} (h : Below N w w') (hB : ∀ k, B k → k < N) : Far B w w' := ⟨h.os, h.tape, h.output, h.size, fun k hk => h.block k (hB k hk)⟩
theorem Far.to {B : Nat} {w w' : World} (h : Far (fun k => k < B) w w') : Below B w w' := ⟨h.os, h.tape, h.output, h.size, h.block⟩
theorem Far.alloc {B : Nat → Prop} {w w' : World} (h : Far B w w') (hB : In B w) (o : Obj) : Far B w (w'.alloc o) :=
  h.trans (Far.of (below_new w' o) (hB.mono h.size))
theorem Far.drewN' {B : Nat → Prop} {w w' : World} (h : Far B w w') (n : Nat) : Far B w (w'.drewN n) := ⟨h.os, h.tape, h.output, h.size, h.block⟩
theorem Far.drew {B : Nat → Prop} {w w' : World} (h : Far B w w') : Far B w w'.drew := h.drewN' 1
theorem Far.setCell {B : Nat → Prop} {w w' : World} (h : Far B w w') {p : Addr} (hb : ¬ B p.block) (v : Value) : Far B w (w'.setCell p v) := by
  have h1 := (Below.refl 0 w').setCell (p := p) (Nat.zero_le _) v
  refine h.trans ⟨h1.os, h1.tape, h1.output, h1.size, fun k hk => ?_⟩
  obtain ⟨b, o, s⟩ := p
  exact heap_setCell_other _ _ _ _ (fun e => hb (by rw [← e]; exact hk))
theorem Far.setCells {B : Nat → Prop} {w w' : World} (h : Far B w w') {b : Nat} (hb : ¬ B b) (o : Nat) (vs : List Value) : Far B w (w'.setCells b o vs) := by
  have h1 := Below.setCells (Below.refl 0 w') (b := b) (Nat.zero_le _) o vs
  exact h.trans ⟨h1.os, h1.tape, h1.output, h1.size, fun k hk => heap_setCells_other b vs o w' k (fun e => hb (by rw [← e]; exact hk))⟩
/-- What an append to a row of the call's own turns: that row, or nothing that lay. -/
theorem Far.grown {B : Nat → Prop} {w w' : World} {r : Option Nat} (h : w.grownBy w' r) (hB : In B w) (hr : ∀ b, r = some b → ¬ B b) : Far B w w' :=
  ⟨h.os, h.tape, h.output, h.size, fun k hk => h.block k (hB k hk) (fun e => hr k e.symm hk)⟩

section
variable {α : Type} {enc : α → List Value} {k : Nat}
/-- The slice is the call's own, and none of the blocks that B speaks of. -/
def OwnP (enc : α → List Value) (k e : Nat) (w : World) (B : Nat → Prop) (v : Value) (xs : List α) : Prop := Own enc k e w 0 v xs ∧ ∀ b, v.ownBlock = some b → ¬ B b
theorem OwnP.below {e : Nat} {w w' : World} {B : Nat → Prop} {v : Value} {xs : List α} (h : OwnP enc k e w B v xs) (hb : Below w.heap.size w w') : OwnP enc k e w' B v xs := ⟨h.1.below hb, h.2⟩
theorem OwnP.slice {e : Nat} {w : World} {B : Nat → Prop} {v : Value} {xs : List α} (h : OwnP enc k e w B v xs) : ∃ a c, v = .slice a xs.length c := h.1.slice
theorem OwnP.read {e : Nat} {w : World} {B : Nat → Prop} {v : Value} {xs : List α} (hk : ∀ x, (enc x).length = k) (h : OwnP enc k e w B v xs) : Sl enc k w v xs := h.1.read hk
theorem OwnP.nil (w : World) (e : Nat) (B : Nat → Prop) : OwnP enc k e w B (.slice none 0 0) [] := ⟨Own.nil _ _ _, fun b h => by cases h⟩
theorem OwnP.of {e N : Nat} {w : World} {v : Value} {xs : List α} (h : Own enc k e w N v xs) : OwnP enc k e w (fun k => k < N) v xs :=
  ⟨h.mono (Nat.zero_le _), fun b hb => by have := (h.blk _ hb).1; omega⟩
theorem OwnP.mono {e : Nat} {w : World} {B B' : Nat → Prop} {v : Value} {xs : List α} (h : OwnP enc k e w B v xs) (hB : ∀ k, B' k → B k) : OwnP enc k e w B' v xs := ⟨h.1, fun b hb h2 => h.2 b hb (hB b h2)⟩
theorem OwnP.to {e N : Nat} {w : World} {v : Value} {xs : List α} (h : OwnP enc k e w (fun k => k < N) v xs) : Own enc k e w N v xs := by
  obtain ⟨⟨h1, h2⟩, h3⟩ := id h
  refine ⟨h1, ?_⟩
  rcases h2 with ⟨rfl, h0⟩ | ⟨g, cap, cur, rfl, hb, hr⟩
  · exact .inl ⟨rfl, h0⟩
  · exact .inr ⟨g, cap, cur, rfl, by have := h3 g rfl; omega, hr⟩
end
/-- 'v = append(v, x)' of a row outside of B. -/
theorem step_app1P {α : Type} {enc : α → List Value} {k : Nat} (hk : ∀ x, (enc x).length = k) (h1 : ∀ x, ∀ v ∈ enc x, v.oneCell' = true) (hk0 : 0 < k) {P : Program} {wr : World} {o : Oper} {a : Act} {Q : Exit → Act → World → Prop} {K : Act → World → Prop} (s x : Operand) (t : TypeId)
    (ho : o.op = .call { callee := .builtin .append, args := #[s, x], argTypes := #[t, t] })
    (B : Nat → Prop) (e : Nat) (z : Value) (hz : z.cells.size = k) (bytes : Nat) (ht : P.underlying t = some (.slice e)) (hi : (P.info? e).map (fun i => (i.zero, i.size, i.bytes)) = some (some z, k, bytes))
    (v : Value) (xs : List α) (hs : a.eval s = v) (hown : OwnP enc k e wr B v xs) (vx : Value) (y : α) (hx : a.eval x = vx) (hr : Sl enc k wr vx [y])
    (h63 : xs.length + 1 ≤ maxLen) (hb : (xs.length + 1) * bytes ≤ 140737488355328) (hB : In B wr)
    (h : ∀ v' w', OwnP enc k e w' B v' (xs ++ [y]) → Kept 0 e wr w' → Far B wr w' → K (a.put o.dst v') w') : o.wp P a wr K Q :=
  step_app1 hk h1 hk0 s x t ho 0 e z hz bytes ht hi v xs hs hown.1 vx y hx hr h63 hb (Nat.zero_le _) fun v' w' h2 h3 h4 h5 =>
    h v' w' ⟨h2, fun b hb2 hb3 => by
      rcases h5 with h5 | h5
      · exact hown.2 b (h5 ▸ hb2) hb3
      · have := h5 b hb2; have := hB b hb3; omega⟩ h3 (Far.grown h4 hB hown.2)
section
variable {α : Type} {enc : α → List Value} {k : Nat}
/-- Rows written over the end of a row of the call's own. -/
theorem OwnAt.over (hk : ∀ x, (enc x).length = k) {e g cap : Nat} {w : World} {xs : List α} (h : OwnAt enc k e w g cap xs) (j : Nat) (ys : List α) (hj : j ≤ xs.length) (hn : xs.length ≤ j + ys.length) (hc : j + ys.length ≤ cap) :
    OwnAt enc k e (w.setCells g (j * k) (ys.flatMap enc)) g cap (xs.take j ++ ys) := by
  obtain ⟨cur, h1, h2, h3⟩ := h.ex
  have hlen : (xs.take j ++ ys).length = j + ys.length := by simp; omega
  have hyl := flat_len hk ys
  have hb : j * k + (ys.flatMap enc).length ≤ cur.toList.length := by
    have hcl : cur.toList.length = cap * k := by simpa using h2
    rw [hyl, hcl, ← Nat.add_mul]
    exact Nat.mul_le_mul_right _ hc
  refine ⟨⟨_, heap_setCells g e _ _ w cur h1, by simpa [setL_len] using h2, ?_⟩, by rw [hlen]; exact hc, h.max⟩
  rw [hlen]
  apply List.ext_getElem?
  intro t
  have hmul : j * k ≤ xs.length * k := Nat.mul_le_mul_right _ hj
  rw [List.getElem?_take, setL_at _ _ _ _ hb, hyl, List.flatMap_append, Nat.add_mul]
  have hx : ∀ t, t < xs.length * k → cur.toList[t]? = (xs.flatMap enc)[t]? := fun t ht => by
    rw [← h3, List.getElem?_take, if_pos ht]
  have htk : ((xs.take j).flatMap enc).length = j * k := by rw [flat_len hk, List.length_take, Nat.min_eq_left (by omega)]
  have hta : xs.flatMap enc = (xs.take j).flatMap enc ++ (xs.drop j).flatMap enc := by rw [← List.flatMap_append, List.take_append_drop]
  by_cases ht : t < j * k + ys.length * k
  · rw [if_pos ht]
    by_cases h5 : j * k ≤ t ∧ t < j * k + ys.length * k
    · rw [if_pos h5, List.getElem?_append_right (by rw [htk]; exact h5.1), htk]
    · rw [if_neg h5, hx t (by omega), List.getElem?_append_left (by rw [htk]; omega), hta, List.getElem?_append_left (by rw [htk]; omega)]
  · rw [if_neg ht, List.getElem?_eq_none]
    rw [List.length_append, htk, hyl]
    omega
end

theorem kept_set {B : Nat} {e : TypeId} {w w' : World} (h : Kept B e w w') {g : Nat} {cur : Array Value} (hg : w.heap[g]? = some (.cells cur e (0, 0))) (hB : B ≤ g) (o : Nat) (vs : List Value) : Kept B e w (w'.setCells g o vs) := by
  have h2 := Below.setCells h.toBelow hB o vs
  refine ⟨h2.os, h2.tape, h2.output, h2.size, fun k hk => h2.block k hk, fun k hk hne => ?_⟩
  have hkg : k ≠ g := fun e => by subst e; exact hne _ _ hg
  rw [heap_setCells_other g _ _ _ _ hkg]
  exact h.other k hk hne

end Go.Proofs.Ytcofmfjhgbihkaa.crush
