/- Slices of texts of the call's own; what a reading of a row keeps in its variables. -/
import Derived.Test.YtkhghkklekjdaaaDoorRows
import Derived.Test.YtkhghkklekjdaaaDoorJournalSum
import Derived.Test.YtkhghkklekjdaaaDoorJournalGreat
import Derived.OwnWalkIn
namespace Go.Proofs.YtkhghkklekjdaaaDoor.journal
open Go.RowKit
open Go.Proofs.YtkhghkklekjdaaaDoor.kit Go.Proofs.YtkhghkklekjdaaaDoor.own Go.Proofs.YtkhghkklekjdaaaDoor.jm Go.Proofs.YtkhghkklekjdaaaDoor.iter
open Go.Proofs.YtkhghkklekjdaaaDoor.sector (bv ba Dev DevAt strN conv_sl)
set_option linter.unusedVariables false
set_option linter.unusedSimpArgs false

/-- A slice of texts of the call's own. -/
def OwnT (w : World) (B : Nat) (v : Value) (ss : List ByteArray) : Prop := w.ownsRow B 9 1 v ss.length (ss.map Value.string)
theorem infoStr : (Tryd.prog.info? 9).map (fun i => (i.zero, i.size, i.bytes)) = some (some (.string .empty), 1, 16) := by kernel_rfl
theorem OwnT.nil (w : World) (B : Nat) : OwnT w B (.slice none 0 0) [] := World.ownsRow_nil _ _ _ _
theorem OwnT.stays {w w' : World} {B : Nat} {v : Value} {ss : List ByteArray} (h : OwnT w B v ss) (hs : ∀ g, v.ownBlock = some g → w'.heap[g]? = w.heap[g]?) : OwnT w' B v ss := sector.own_stays h hs
theorem OwnT.below {w w' : World} {B : Nat} {v : Value} {ss : List ByteArray} (h : OwnT w B v ss) (hb : Below w.heap.size w w') : OwnT w' B v ss := by
  refine h.stays fun g hg => ?_
  obtain ⟨cur, hc⟩ := sector.own_type h hg
  exact hb.block g (Array.getElem?_eq_some_iff.1 hc).1
theorem OwnT.form {w : World} {B : Nat} {v : Value} {ss : List ByteArray} (h : OwnT w B v ss) : ∃ a c, v = .slice a ss.length c := by
  rcases h.2 with ⟨rfl, h0⟩ | ⟨g, cap, cur, rfl, _⟩
  · exact ⟨none, 0, by rw [h0]⟩
  · exact ⟨_, _, rfl⟩
theorem OwnT.base {w : World} {B B' : Nat} {v : Value} {ss : List ByteArray} (h : OwnT w B v ss) (hB : B' ≤ B) : OwnT w B' v ss := by
  refine ⟨h.1, ?_⟩
  rcases h.2 with hn | ⟨g, cap, cur, rfl, hB2, hr⟩
  · exact .inl hn
  · exact .inr ⟨g, cap, cur, rfl, Nat.le_trans hB hB2, hr⟩
theorem OwnI.stays {w w' : World} {B e : Nat} {k : IntKind} {v : Value} {ns : List Nat} (h : OwnI w B e k v ns) (hs : ∀ g, v.ownBlock = some g → w'.heap[g]? = w.heap[g]?) : OwnI w' B e k v ns := sector.own_stays h hs

/-- 'l = append(l, s)' of one text, in a fence. -/
theorem app1T_in {F : Fence} {n : Nat} {P : Program} {wr : World} {ops : Array Oper} {rest : List Oper} {o : Oper} {a : Act} {Q : Exit → Act → World → Prop} (hgd : o.guard = none) (s x : Operand) (t : TypeId)
    (ho : o.op = .call { callee := .builtin .append, args := #[s, x], argTypes := #[t, t] })
    (B : Nat) (ht : P.underlying t = some (.slice 9)) (hi : (P.info? 9).map (fun i => (i.zero, i.size, i.bytes)) = some (some (.string .empty), 1, 16))
    (v : Value) (ss : List ByteArray) (hs : a.eval s = v) (hown : OwnT wr B v ss) (c : ByteArray) (k : Nat) (hn : k = wr.heap.size) (hx : a.eval x = .slice (some ⟨k, 0, none⟩) 1 1)
    (h63 : ss.length + 1 ≤ maxLen) (hb : (ss.length + 1) * 16 ≤ 140737488355328) (hB : B ≤ wr.heap.size)
    (h : ∀ v' w', OwnT w' B v' (ss ++ [c]) → Kept B 9 wr w' → wpListIn F n P ops Q rest (a.put o.dst v') w') : wpListIn F n P ops Q (o :: rest) a (wr.alloc (.cells #[.string c] 9)) := by
  subst hn
  obtain ⟨i0, hi, hz0, hz1, hz2⟩ := info_parts hi
  have hown2 : OwnT (wr.alloc (.cells #[.string c] 9)) B v ss := hown.below ((Below.refl _ _).alloc (Nat.le_refl _) _)
  refine wpListIn_append_own _ hgd s x t ho B 9 i0 (.string .empty) 1 16 ht hi hz0 hz1 hz2 rfl (by decide) v ss.length (ss.map Value.string) hs hown2 ⟨wr.heap.size, 0, none⟩ 1 1 [.string c] hx rfl ?_ ?_ h63 hb (by simp; omega) ?_
  · intro j u hj
    match j, hj with
    | 0, hj => simp at hj; subst hj; rw [add_plain', World.cell?_alloc_at _ _ _ _ rfl]; rfl
  · intro u hu; simp at hu; subst hu; rfl
  · intro v' w' hown' hg _
    refine h v' w' ?_ ((Kept.of_below hB ((Below.refl _ _).alloc (Nat.le_refl _) _)).trans (Kept.grown (by simp; omega) hown2 hg))
    unfold OwnT
    simpa using hown'

/-- What numbers a reading has, behind i sectors. -/
structure RdOk (i : Nat) (s : Rd) : Prop where
  num : s.num ≤ maxNum
  count : s.count < 4294967296
  sum : s.sum < 4294967296
  text : s.text.length ≤ s.count
  len : s.text.length ≤ 64 * i
  lt : ∀ n ∈ s.text, n < 256
  ls : s.l.length ≤ i
  taken : s.taken ≤ i * 300000
  last : s.last ≤ maxNum

theorem gath_len (text : List Nat) (count : Nat) (b : List Nat) : (gath text count b).length ≤ max count text.length ∧ (gath text count b).length ≤ text.length + b.length := by
  rw [gath_eq, List.length_append, List.length_take]
  omega
theorem gath_lt {text : List Nat} {count : Nat} {b : List Nat} (h : ∀ n ∈ text, n < 256) (hb : ∀ n ∈ b, n < 256) : ∀ n ∈ gath text count b, n < 256 := by
  intro n hn
  rw [gath_eq] at hn
  rcases List.mem_append.1 hn with hn | hn
  · exact h n hn
  · exact hb n (List.mem_of_mem_take hn)
theorem need_le (n : Nat) : need n ≤ n + 1 := by unfold need; split <;> omega
theorem fin_ok {i : Nat} {s : Rd} (h : RdOk (i + 1) s) (hi : i < 4096) (hls : s.l.length ≤ i) (htk : s.taken ≤ i * 300000) : RdOk (i + 1) (finR s).1 := by
  unfold finR
  split
  · exact h
  split
  · exact h
  · next h1 h2 =>
    refine ⟨h.num, h.count, h.sum, h.text, h.len, h.lt, ?_, ?_, h.num⟩
    · simp only [List.length_append, List.length_cons, List.length_nil]; omega
    · have := need_le s.count
      have h3 := h.len
      have h4 := h.text
      simp only
      omega
set_option maxRecDepth 100000 in
theorem mid_ok {i : Nat} {s : Rd} {p : Pc} (h : RdOk i s) (hp : p.Ok) (hi : i < 4096) (hl : s.text.length < s.count) : RdOk (i + 1) { s with text := gath s.text s.count p.rest } := by
  have h1 := gath_len s.text s.count p.rest
  have hr : p.rest.length ≤ 55 := by
    rcases hp.1 with rfl | hh
    · simp
    · omega
  exact ⟨h.num, h.count, h.sum, by simp only; omega, by have := h.len; simp only; clear hi; omega, gath_lt h.lt hp.2, by have := h.ls; simp only; omega, Nat.le_trans h.taken (Nat.mul_le_mul_right _ (Nat.le_succ _)), h.last⟩
set_option maxRecDepth 100000 in
theorem begun_ok {i : Nat} {s : Rd} {p : Pc} (h : RdOk i s) (hp : p.Ok) (hi : i < 4096) (hm : p.mark ≠ 0) : RdOk (i + 1) (begunR s p) := by
  have hr : p.rest.length = 55 := by
    rcases hp.1 with rfl | hh
    · exact absurd rfl hm
    · exact hh.2.2.2
  have h1 := gath_len [] (ofLe (p.rest.take 4)) (p.rest.drop 8)
  have c1 := ofLe_lt (p.rest.take 4) (fun n hn => hp.2 n (List.mem_of_mem_take hn))
  have c2 := ofLe_lt ((p.rest.drop 4).take 4) (fun n hn => hp.2 n (List.mem_of_mem_drop (List.mem_of_mem_take hn)))
  rw [List.length_take, hr] at c1
  rw [List.length_take, List.length_drop, hr] at c2
  simp only [List.length_nil, List.length_drop, hr] at h1
  refine ⟨?_, c1, c2, ?_, ?_, gath_lt (fun n hn => by cases hn) (fun n hn => hp.2 n (List.mem_of_mem_drop hn)), by have := h.ls; simp only [begunR]; omega, Nat.le_trans h.taken (Nat.mul_le_mul_right _ (Nat.le_succ _)), h.last⟩
  · rcases hp.1 with rfl | hh
    · exact absurd rfl hm
    · exact hh.2.2.1
  · simp only [begunR]; omega
  · simp only [begunR]; omega

/-- What 'stand' keeps in its variables. -/
structure SB (N : Nat) (w : World) (i : Nat) (s : Rd) (W : World) : Prop where
  bel : Below N w W
  l : ∃ v, W.heap[N]? = some (.cells #[v] 30 (0, 0)) ∧ OwnT W (N + 6) v (s.l.map strN)
  r : ∃ v, RecBox W (N + 1) s.num s.count s.sum v ∧ OwnI W (N + 6) 5 .u8 v s.text
  taken : W.heap[N + 2]? = some (.cells #[.int .i64 (s.taken : Int)] 3 (0, 0))
  last : W.heap[N + 3]? = some (.cells #[.int .i64 (s.last : Int)] 2 (0, 0))
  ok : RdOk i s
theorem SB.lt {N : Nat} {w : World} {i : Nat} {s : Rd} {W : World} (h : SB N w i s W) : N + 3 < W.heap.size := (Array.getElem?_eq_some_iff.1 h.last).1
theorem SB.keep {N : Nat} {w : World} {i : Nat} {s : Rd} {W W' : World} (h : SB N w i s W) (hb : Below W.heap.size W W') : SB N w i s W' := by
  have hl := h.lt
  obtain ⟨v, h1, h2⟩ := h.l
  obtain ⟨u, h3, h4⟩ := h.r
  exact ⟨h.bel.trans (hb.mono (by omega)), ⟨v, (hb.block _ (by omega)).trans h1, h2.below hb⟩, ⟨u, h3.keep hb, h4.below hb⟩, (hb.block _ (by omega)).trans h.taken, (hb.block _ (by omega)).trans h.last, h.ok⟩
theorem SB.putObj {N : Nat} {w : World} {i : Nat} {s : Rd} {W : World} (h : SB N w i s W) (l : Nat) (o : Obj) (hl : N + 4 ≤ l) (hl2 : l < N + 6) : SB N w i s (W.putObj l o) := by
  obtain ⟨v, h1, h2⟩ := h.l
  obtain ⟨u, h3, h4⟩ := h.r
  have k : ∀ j, j ≠ l → (W.putObj l o).heap[j]? = W.heap[j]? := fun j hj => World.putObj_heap_other hj
  refine ⟨below_putObj h.bel l o (by omega), ⟨v, (k _ (by omega)).trans h1, h2.stays fun g hg => k g (fun e => ?_)⟩, ⟨u, (k _ (by omega)).trans h3, OwnI.stays h4 fun g hg => k g (fun e => ?_)⟩, (k _ (by omega)).trans h.taken, (k _ (by omega)).trans h.last, h.ok⟩
  · have := (World.ownsRow.lt h2 g hg).1; omega
  · have := (World.ownsRow.lt h4 g hg).1; omega

end Go.Proofs.YtkhghkklekjdaaaDoor.journal
