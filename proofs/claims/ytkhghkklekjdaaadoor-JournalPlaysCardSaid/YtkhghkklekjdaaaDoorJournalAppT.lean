/- Appends of texts to a slice of the call's own. -/
import Derived.Test.YtkhghkklekjdaaaDoorRows
import Derived.Test.YtkhghkklekjdaaaDoorJournalText
import Derived.OwnWalk
namespace Go.Proofs.YtkhghkklekjdaaaDoor.journal
open Go.RowKit
open Go.Proofs.YtkhghkklekjdaaaDoor.kit Go.Proofs.YtkhghkklekjdaaaDoor.own
set_option linter.unusedVariables false

/-- A guarded operation that is wanted is carried out as one without a guard. -/
theorem wpList_free {P : Program} {ops : Array Oper} {Q : Exit → Act → World → Prop} {a : Act} {w : World} {rest : List Oper} {o : Oper} (hw : Region.wanted o (yielded ops a.tmps) = true)
    (h : wpList P ops Q ({ o with guard := none } :: rest) a w) : wpList P ops Q (o :: rest) a w := by
  have hn : Region.wanted { o with guard := none } (yielded ops a.tmps) = true := rfl
  unfold wpList at h ⊢
  rw [if_pos hw]
  rw [if_pos hn] at h
  exact h
theorem heap_alloc_lt (w : World) (o : Obj) {k : Nat} (hk : k < w.heap.size) : (w.alloc o).heap[k]? = w.heap[k]? := ((Below.refl w.heap.size w).alloc (Nat.le_refl _) o).block k hk
/-- A row that was made behind another's world lies elsewhere. -/
theorem OwnT.newer {W W' : World} {B : Nat} {u v : Value} {ss tt : List ByteArray} (hu : OwnT W B u ss) (hv : OwnT W' W.heap.size v tt) : ∀ g, v.ownBlock = some g → u.ownBlock ≠ some g := by
  intro g hg hg'
  obtain ⟨cur, hc⟩ := sector.own_type hu hg'
  have h1 := (Array.getElem?_eq_some_iff.1 hc).1
  have h2 := (World.ownsRow.lt hv g hg).1
  omega
/-- 'l = append(l, s)' of one text. -/
theorem app1T {P : Program} {wr : World} {ops : Array Oper} {rest : List Oper} {o : Oper} {a : Act} {Q : Exit → Act → World → Prop} (hgd : o.guard = none) (s x : Operand) (t : TypeId)
    (ho : o.op = .call { callee := .builtin .append, args := #[s, x], argTypes := #[t, t] })
    (B : Nat) (ht : P.underlying t = some (.slice 9)) (hi : (P.info? 9).map (fun i => (i.zero, i.size, i.bytes)) = some (some (.string .empty), 1, 16))
    (v : Value) (ss : List ByteArray) (hs : a.eval s = v) (hown : OwnT wr B v ss) (c : ByteArray) (k : Nat) (hn : k = wr.heap.size) (hx : a.eval x = .slice (some ⟨k, 0, none⟩) 1 1)
    (h63 : ss.length + 1 ≤ maxLen) (hb : (ss.length + 1) * 16 ≤ 140737488355328) (hB : B ≤ wr.heap.size)
    (h : ∀ v' w', OwnT w' B v' (ss ++ [c]) → Kept B 9 wr w' → (∀ k, k < wr.heap.size → v.ownBlock ≠ some k → w'.heap[k]? = wr.heap[k]?) → wpList P ops Q rest (a.put o.dst v') w') : wpList P ops Q (o :: rest) a (wr.alloc (.cells #[.string c] 9)) := by
  subst hn
  obtain ⟨i0, hi, hz0, hz1, hz2⟩ := info_parts hi
  have hown2 : OwnT (wr.alloc (.cells #[.string c] 9)) B v ss := hown.below ((Below.refl _ _).alloc (Nat.le_refl _) _)
  refine wpList_append_own _ hgd s x t ho B 9 i0 (.string .empty) 1 16 ht hi hz0 hz1 hz2 rfl (by decide) v ss.length (ss.map Value.string) hs hown2 ⟨wr.heap.size, 0, none⟩ 1 1 [.string c] hx rfl ?_ ?_ h63 hb (by simp; omega) ?_
  · intro j u hj
    match j, hj with
    | 0, hj => simp at hj; subst hj; rw [add_plain', World.cell?_alloc_at _ _ _ _ rfl]; rfl
  · intro u hu; simp at hu; subst hu; rfl
  · intro v' w' hown' hg _
    refine h v' w' ?_ ((Kept.of_below hB ((Below.refl _ _).alloc (Nat.le_refl _) _)).trans (Kept.grown (by simp; omega) hown2 hg)) (fun k hk hn => (hg.block k (by simp; omega) (fun e => hn e.symm)).trans (heap_alloc_lt wr _ hk))
    unfold OwnT
    simpa using hown'
/-- 'l = append(l, m...)' of a row of texts of the call's own. -/
theorem appT {P : Program} {wr : World} {ops : Array Oper} {rest : List Oper} {o : Oper} {a : Act} {Q : Exit → Act → World → Prop} (hgd : o.guard = none) (s x : Operand) (t : TypeId)
    (ho : o.op = .call { callee := .builtin .append, args := #[s, x], argTypes := #[t, t] })
    (B : Nat) (ht : P.underlying t = some (.slice 9)) (hi : (P.info? 9).map (fun i => (i.zero, i.size, i.bytes)) = some (some (.string .empty), 1, 16))
    (v : Value) (ss : List ByteArray) (hs : a.eval s = v) (hown : OwnT wr B v ss) (b off m c : Nat) (ms : List ByteArray) (hm : ms.length = m) (hx : a.eval x = .slice (some ⟨b, off, none⟩) m c)
    (hcell : ∀ j (h : j < ms.length), wr.cell? ⟨b, off + j, none⟩ = some (.string ms[j]))
    (h63 : ss.length + m ≤ maxLen) (hb : (ss.length + m) * 16 ≤ 140737488355328) (hB : B ≤ wr.heap.size)
    (h : ∀ v' w', OwnT w' B v' (ss ++ ms) → Kept B 9 wr w' → wpList P ops Q rest (a.put o.dst v') w') : wpList P ops Q (o :: rest) a wr := by
  obtain ⟨i0, hi, hz0, hz1, hz2⟩ := info_parts hi
  refine wpList_append_own wr hgd s x t ho B 9 i0 (.string .empty) 1 16 ht hi hz0 hz1 hz2 rfl (by decide) v ss.length (ss.map Value.string) hs hown ⟨b, off, none⟩ m c (ms.map Value.string) hx (by simp [hm]) ?_ ?_ h63 hb hB ?_
  · intro j u hu
    have hj : j < ms.length := by simpa using (List.getElem?_eq_some_iff.1 hu).1
    rw [add_plain', hcell j hj]
    rw [← hu]; simp [hj]
  · intro u hu
    obtain ⟨_, _, rfl⟩ := List.mem_map.1 hu
    rfl
  · intro v' w' hown' hg _
    refine h v' w' ?_ (Kept.grown hB hown hg)
    unfold OwnT
    simpa [hm] using hown'

end Go.Proofs.YtkhghkklekjdaaaDoor.journal
