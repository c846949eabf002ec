/- Learn: the mathematics, and the boxes of its loop. -/
import Derived.Test.YtmdipcemhaomhaaRows
import Derived.Test.YtmdipcemhaomhaaAccIter
namespace Go.Proofs.Ytmdipcemhaomhaa.crush
open Go.RowKit
open Go.Proofs.Ytmdipcemhaomhaa.kit Go.Proofs.Ytmdipcemhaomhaa.own Go.Proofs.Ytmdipcemhaomhaa.iter
set_option linter.unusedVariables false
set_option linter.unusedSimpArgs false

theorem taken_len : ∀ (l : List ByteArray) (n : Nat), (taken l n).length ≤ n
  | [], n => by simp [taken]
  | x :: l, n => by
    rw [taken]
    split
    · rename_i h
      have := taken_len l (n - 1)
      rw [List.length_cons]
      omega
    · simp
/-- So far k are taken. -/
def Far1 (xs : List ByteArray) (n k : Nat) : Prop := taken xs n = xs.take k ++ taken (xs.drop k) (n - k) ∧ (k = 0 ∨ k ≤ n)
theorem far1_zero (xs : List ByteArray) (n : Nat) : Far1 xs n 0 := ⟨by simp, .inl rfl⟩
theorem far1_step {xs : List ByteArray} {n k : Nat} (h : Far1 xs n k) (hk : k < xs.length) (ho : okTxt xs[k] = true) (hn : k < n) : Far1 xs n (k + 1) := by
  refine ⟨?_, .inr hn⟩
  rw [h.1, List.drop_eq_getElem_cons hk, taken, if_pos ⟨ho, by omega⟩, List.take_succ_eq_append_getElem hk, List.append_assoc, Nat.sub_sub]
  rfl
theorem far1_end {xs : List ByteArray} {n : Nat} (h : Far1 xs n xs.length) : taken xs n = xs := by
  rw [h.1]; simp [taken]
theorem far1_stop {xs : List ByteArray} {n k : Nat} (h : Far1 xs n k) (hk : k < xs.length) (ho : okTxt xs[k] = false ∨ n ≤ k) : taken xs n = xs.take k := by
  rw [h.1, List.drop_eq_getElem_cons hk, taken, if_neg, List.append_nil]
  rintro ⟨h1, h2⟩
  rcases ho with h3 | h3
  · rw [h3] at h1; cases h1
  · omega

theorem Two.put {w : World} {N : Nat} {pr pm : Int} {has : Bool} {ar am : Int} {val : ByteArray} {s : Value} {W : World} (h : Two w N pr pm has ar am val s W) (pr' pm' : Int) (has' : Bool) (ar' am' : Int) (val' : ByteArray) (s' : Value) : Two w N pr' pm' has' ar' am' val' s' (W.setCells N 0 [.int .i64 pr', .int .i64 pm', .bool has', .int .i64 ar', .int .i64 am', .string val', s']) :=
  ⟨h.hN, Below.setCells h.bel (Nat.le_of_eq h.hN.symm) 0 _, h.one.put _ _ _ _ _ _ _, (heap_setCells_other N _ 0 W _ (by omega)).trans h.two⟩
def LrnS (w : World) (a : AccV) (f : Int) (l : List ByteArray) (e : Ending) (w' : World) : Prop := ∃ s, e = .returned (.tuple #[(learnE a f l).agg s, .int .i64 ((learnL a f l).length : Int)]) ∧ Own tx 1 9 w' w.heap.size s (learnE a f l).com ∧ Below w.heap.size w w'

/-- 'l = append(l, y)' of one row, in the fence. -/
theorem app1G_in {α : Type} {enc : α → List Value} {k : Nat} (hk : ∀ x, (enc x).length = k) (h1 : ∀ x, ∀ v ∈ enc x, v.oneCell' = true) (hk0 : 0 < k) {F : Fence} {n : Nat} {P : Program} {wr : World} {ops : Array Oper} {rest : List Oper} {o : Oper} {a : Act} {Q : Exit → Act → World → Prop} (hgd : o.guard = none) (s x : Operand) (t : TypeId)
    (ho : o.op = .call { callee := .builtin .append, args := #[s, x], argTypes := #[t, t] })
    (B e : Nat) (z : Value) (hz : z.cells.size = k) (bytes : Nat) (ht : P.underlying t = some (.slice e)) (hi : (P.info? e).map (fun i => (i.zero, i.size, i.bytes)) = some (some z, k, bytes))
    (v : Value) (xs : List α) (hs : a.eval s = v) (hown : Own enc k e wr B v xs) (y : α) (cs : Array Value) (hcs : cs = (enc y).toArray) (kk : Nat) (hn : kk = wr.heap.size) (hx : a.eval x = .slice (some ⟨kk, 0, none⟩) 1 1)
    (h63 : xs.length + 1 ≤ maxLen) (hb : (xs.length + 1) * bytes ≤ 140737488355328) (hB : B ≤ wr.heap.size)
    (h : ∀ v' w', Own enc k e w' B v' (xs ++ [y]) → Kept B e wr w' → wpListIn F n P ops Q rest (a.put o.dst v') w') : wpListIn F n P ops Q (o :: rest) a (wr.alloc (.cells cs e)) := by
  subst hn hcs
  obtain ⟨i0, hi, hz0, hz1, hz2⟩ := info_parts hi
  have hown2 : Own enc k e (wr.alloc (.cells (enc y).toArray e)) B v xs := hown.below ((Below.refl _ _).alloc (Nat.le_refl _) _)
  refine wpListIn_append_own _ hgd s x t ho B e i0 z k bytes ht hi hz0 hz1 hz2 hz hk0 v xs.length (xs.flatMap enc) hs hown2 ⟨wr.heap.size, 0, none⟩ 1 1 (enc y) hx (by rw [hk, Nat.one_mul]) ?_ (h1 y) h63 hb (by simp; omega) ?_
  · intro j u hj
    rw [add_plain', World.cell?_alloc_at _ _ _ _ rfl, Nat.zero_add]
    simpa using hj
  · intro v' w' hown' hg _
    refine h v' w' ?_ ((Kept.of_below hB ((Below.refl _ _).alloc (Nat.le_refl _) _)).trans (Kept.grown (by simp; omega) hown2 hg))
    unfold Own
    rw [List.length_append, List.flatMap_append]
    simpa using hown'

/-- The boxes of Learn's loop. -/
structure LBx (w : World) (N : Nat) (pr pm : Int) (has : Bool) (ar am : Int) (val : ByteArray) (src : Value) (f : Int) (bl bf D : Nat) (out : List ByteArray) (lp : Obj) (vo : Value) (W : World) : Prop where
  hN : N = w.heap.size
  bel : Below w.heap.size w W
  one : ABox W N pr pm has ar am val vo
  two : ABox W (N + 1) 0 0 false 0 0 { data := #[] } (.slice none 0 0)
  own : Own tx 1 9 W (N + 1 + 1) vo out
  hl : Box W bl 24 src
  hf : Box W bf 2 (.int .i64 f)
  df : W.heap[D]? = some (.deferred (some []))
  lp : W.heap[D + 1]? = some lp
  hbl : N + 1 < bl
  hbf : N + 1 < bf
  hD : N + 1 < D
section
variable {w : World} {N : Nat} {pr pm : Int} {has : Bool} {ar am : Int} {val : ByteArray} {src : Value} {f : Int} {bl bf D : Nat} {out : List ByteArray} {lp : Obj} {lr : Loop} {vo : Value} {W W' : World}
theorem LBx.lt (h : LBx w N pr pm has ar am val src f bl bf D out lp vo W) : D + 1 < W.heap.size := (Array.getElem?_eq_some_iff.1 h.lp).1
theorem LBx.keep (h : LBx w N pr pm has ar am val src f bl bf D out lp vo W) (hb : Below W.heap.size W W') : LBx w N pr pm has ar am val src f bl bf D out lp vo W' := by
  have hl := h.lt
  exact ⟨h.hN, h.bel.trans (hb.mono h.bel.size), h.one.keep hb, h.two.keep hb, h.own.below hb, (hb.block _ (box_lt h.hl)).trans h.hl, (hb.block _ (box_lt h.hf)).trans h.hf, (hb.block _ (by omega)).trans h.df, (hb.block _ (by omega)).trans h.lp, h.hbl, h.hbf, h.hD⟩
theorem LBx.putLp (h : LBx w N pr pm has ar am val src f bl bf D out (.loop lr) vo W) (o : Obj) : LBx w N pr pm has ar am val src f bl bf D out o vo (W.putObj (D + 1) o) := by
  have hne : ∀ k c t fz, W.heap[k]? = some (Obj.cells c t fz) → k ≠ D + 1 := fun k c t fz e hk => by rw [hk, h.lp] at e; cases e
  refine ⟨h.hN, below_putObj h.bel _ _ ?_, (World.putObj_heap_other (hne _ _ _ _ h.one)).trans h.one, (World.putObj_heap_other (hne _ _ _ _ h.two)).trans h.two, h.own.putObj _ _ (fun c t f e => by rw [h.lp] at e; cases e), (World.putObj_heap_other (hne _ _ _ _ h.hl)).trans h.hl, (World.putObj_heap_other (hne _ _ _ _ h.hf)).trans h.hf, (World.putObj_heap_other (by omega)).trans h.df, World.putObj_heap_same h.lt, h.hbl, h.hbf, h.hD⟩
  have h1 := h.hD; have h2 := h.hN; omega
theorem LBx.grow (h : LBx w N pr pm has ar am val src f bl bf D out (.loop lr) vo W) {w9 : World} {v9 : Value} {y : ByteArray} (ho : Own tx 1 9 w9 (N + 1 + 1) v9 (out ++ [y])) (hk : Kept (N + 1 + 1) 9 W w9) : LBx w N pr pm has ar am val src f bl bf D (out ++ [y]) (.loop lr) v9 (w9.setCell ⟨N, 6, none⟩ v9) := by
  have hb9 : ABox w9 N pr pm has ar am val vo := (hk.below N (by omega)).trans h.one
  have oth : ∀ k, k ≠ N → (w9.setCell ⟨N, 6, none⟩ v9).heap[k]? = w9.heap[k]? := fun k hk => heap_setCell_other _ _ _ _ hk
  have hNw := h.hN
  have hbl := h.hbl; have hbf := h.hbf
  refine ⟨h.hN, (h.bel.trans (hk.toBelow.mono (by omega))).setCell (p := ⟨N, 6, none⟩) (by rw [hNw]; exact Nat.le_refl _) _, hb9.row v9, ((oth _ (by omega)).trans (hk.below _ (by omega))).trans h.two, ho.far6 (by omega) 6 v9, ((oth _ (by omega)).trans (hk.box (by decide) h.hl)), ((oth _ (by omega)).trans (hk.box (by decide) h.hf)), ?_, ?_, h.hbl, h.hbf, h.hD⟩
  · exact (oth _ (fun e => by have := h.df; rw [e] at this; rw [ABox] at hb9; have h1 := h.one; rw [ABox, this] at h1; cases h1)).trans ((hk.other _ (Array.getElem?_eq_some_iff.1 h.df).1 (fun c f e => by rw [h.df] at e; cases e)).trans h.df)
  · exact (oth _ (fun e => by have := h.lp; rw [e] at this; have h1 := h.one; rw [ABox, this] at h1; cases h1)).trans ((hk.other _ h.lt (fun c f e => by rw [h.lp] at e; cases e)).trans h.lp)
/-- Behind a store into the acceptor's box that leaves its row. -/
theorem LBx.turn (h : LBx w N pr pm has ar am val src f bl bf D out lp vo W) (o : Nat) (vs : List Value) {pr' pm' : Int} {has' : Bool} {ar' am' : Int} {val' : ByteArray} (hA : ABox (W.setCells N o vs) N pr' pm' has' ar' am' val' vo) : LBx w N pr' pm' has' ar' am' val' src f bl bf D out lp vo (W.setCells N o vs) := by
  have oth : ∀ k, k ≠ N → (W.setCells N o vs).heap[k]? = W.heap[k]? := fun k hk => heap_setCells_other N vs o W k hk
  have h1 := h.hbl; have h2 := h.hbf; have h3 := h.hD; have h4 := h.hN
  exact ⟨h.hN, Below.setCells h.bel (by omega) o vs, hA, (oth _ (by omega)).trans h.two, Own.farC (by omega) vs o h.own, (oth _ (by omega)).trans h.hl, (oth _ (by omega)).trans h.hf, (oth _ (by omega)).trans h.df, (oth _ (by omega)).trans h.lp, h.hbl, h.hbf, h.hD⟩
theorem LBx.setHas (h : LBx w N pr pm has ar am val src f bl bf D out lp vo W) (q : Bool) : LBx w N pr pm q ar am val src f bl bf D out lp vo (W.setCell ⟨N, 2, none⟩ (.bool q)) := h.turn 2 [.bool q] (heap_setCells N 26 [.bool q] 2 W _ h.one)
theorem LBx.setVal (h : LBx w N pr pm has ar am val src f bl bf D out lp vo W) (q : ByteArray) : LBx w N pr pm has ar am q src f bl bf D out lp vo (W.setCell ⟨N, 5, none⟩ (.string q)) := h.turn 5 [.string q] (heap_setCells N 26 [.string q] 5 W _ h.one)
theorem LBx.setAt (h : LBx w N pr pm has ar am val src f bl bf D out lp vo W) (q u : Int) : LBx w N pr pm has q u val src f bl bf D out lp vo (W.setCells N 3 [.int .i64 q, .int .i64 u]) := h.turn 3 [.int .i64 q, .int .i64 u] (heap_setCells N 26 [.int .i64 q, .int .i64 u] 3 W _ h.one)
/-- The end: the result is stored, and the loop's book is closed. -/
theorem LBx.fin (h : LBx w N pr pm has ar am val src f bl bf D out lp vo W) (pr' pm' : Int) (has' : Bool) (ar' am' : Int) (val' : ByteArray) (s' : Value) :
    (W.setCells (N + 1) 0 [.int .i64 pr', .int .i64 pm', .bool has', .int .i64 ar', .int .i64 am', .string val', s']).heap[D]? = some (.deferred (some [])) ∧
    ABox ((W.setCells (N + 1) 0 [.int .i64 pr', .int .i64 pm', .bool has', .int .i64 ar', .int .i64 am', .string val', s']).putObj D (.deferred none)) (N + 1) pr' pm' has' ar' am' val' s' ∧
    Own tx 1 9 ((W.setCells (N + 1) 0 [.int .i64 pr', .int .i64 pm', .bool has', .int .i64 ar', .int .i64 am', .string val', s']).putObj D (.deferred none)) w.heap.size vo out ∧
    Below w.heap.size w ((W.setCells (N + 1) 0 [.int .i64 pr', .int .i64 pm', .bool has', .int .i64 ar', .int .i64 am', .string val', s']).putObj D (.deferred none)) := by
  have h3 := h.hD; have h4 := h.hN
  have hd : (W.setCells (N + 1) 0 [.int .i64 pr', .int .i64 pm', .bool has', .int .i64 ar', .int .i64 am', .string val', s']).heap[D]? = some (.deferred (some [])) := (heap_setCells_other (N + 1) _ 0 W D (by omega)).trans h.df
  refine ⟨hd, ?_, ?_, ?_⟩
  · exact (World.putObj_heap_other (by omega)).trans (h.two.put pr' pm' has' ar' am' val' s')
  · exact ((Own.farC (N := N + 1) (by omega) _ 0 h.own).putObj _ _ (fun c t f e => by rw [hd] at e; cases e)).mono (by omega)
  · exact below_putObj (Below.setCells h.bel (by omega) 0 _) D _ (by omega)
end
end Go.Proofs.Ytmdipcemhaomhaa.crush
