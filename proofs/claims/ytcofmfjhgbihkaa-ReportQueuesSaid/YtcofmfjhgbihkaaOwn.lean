/- Slices of the call's own, and what is kept: words for every layer. -/
import Derived.WalkKit
import Derived.ProofKit
import Derived.Lib.Hide
import Derived.Test.YtcofmfjhgbihkaaKit
import Derived.Laws.AppendOwn
import Derived.Laws.AppendOwnNone
import Derived.Deep.QuietTactic
import Derived.Deep.MidRow
import Derived.Deep.OwnRows
import Derived.RangeFuncBox
namespace Go.Proofs.Ytcofmfjhgbihkaa.own
open Go.RowKit
open Go.Proofs.Ytcofmfjhgbihkaa.kit

/-- What lay below B, and whatever is no row of cells of type e, lies as it lay. -/
structure Kept (B : Nat) (e : TypeId) (w w' : World) : Prop where
  os : w'.os = w.os
  tape : w'.tape = w.tape
  output : w'.output = w.output
  size : w.heap.size ≤ w'.heap.size
  below : ∀ k, k < B → w'.heap[k]? = w.heap[k]?
  other : ∀ k, k < w.heap.size → (∀ cur fz, w.heap[k]? ≠ some (.cells cur e fz)) → w'.heap[k]? = w.heap[k]?

theorem Kept.refl (B : Nat) (e : TypeId) (w : World) : Kept B e w w := ⟨rfl, rfl, rfl, Nat.le_refl _, fun _ _ => rfl, fun _ _ _ => rfl⟩
theorem Kept.trans {B : Nat} {e : TypeId} {a b c : World} (h : Kept B e a b) (k : Kept B e b c) : Kept B e a c :=
  ⟨k.os.trans h.os, k.tape.trans h.tape, k.output.trans h.output, Nat.le_trans h.size k.size, fun i hi => (k.below i hi).trans (h.below i hi), fun i hi hn =>
    (k.other i (Nat.lt_of_lt_of_le hi h.size) (fun cur fz e' => hn cur fz ((h.other i hi hn).symm.trans e'))).trans (h.other i hi hn)⟩
theorem Kept.toBelow {B : Nat} {e : TypeId} {a b : World} (h : Kept B e a b) : Below B a b := ⟨h.os, h.tape, h.output, h.size, h.below⟩
/-- What turned nothing that lay at all. -/
theorem Kept.of_below {B : Nat} {e : TypeId} {a b : World} (hB : B ≤ a.heap.size) (h : Below a.heap.size a b) : Kept B e a b :=
  ⟨h.os, h.tape, h.output, h.size, fun k hk => h.block k (by omega), fun k hk _ => h.block k hk⟩
theorem Kept.drewN {B : Nat} {e : TypeId} {a b : World} (h : Kept B e a b) (n : Nat) : Kept B e a (b.drewN n) := ⟨h.os, h.tape, h.output, h.size, h.below, h.other⟩
theorem Kept.drew {B : Nat} {e : TypeId} {a b : World} (h : Kept B e a b) : Kept B e a b.drew := ⟨h.os, h.tape, h.output, h.size, h.below, h.other⟩
theorem Kept.box {B : Nat} {e : TypeId} {a b : World} (h : Kept B e a b) {k : Nat} {cur : Array Value} {t : TypeId} {fz : Nat × Nat} (ht : t ≠ e) (hk : a.heap[k]? = some (.cells cur t fz)) : b.heap[k]? = some (.cells cur t fz) :=
  (h.other k (Array.getElem?_eq_some_iff.1 hk).1 (fun c f e' => by rw [hk] at e'; cases e'; exact ht rfl)).trans hk

theorem Kept.boxCell {B : Nat} {e : TypeId} {a b : World} (h : Kept B e a b) {k : Nat} {cur : Array Value} {t : TypeId} {fz : Nat × Nat} (ht : t ≠ e) (hk : a.heap[k]? = some (.cells cur t fz)) (j : Nat) : b.cell? ⟨k, j, none⟩ = cur[j]? := by
  have := h.box ht hk
  simp [World.cell?, this]

theorem _root_.Go.RowKit.Below.drewN' {B : Nat} {a w : World} (h : Below B a w) (n : Nat) : Below B a (w.drewN n) := ⟨h.os, h.tape, h.output, h.size, h.block⟩

/-- An append to a row of the call's own. -/
theorem Kept.grown {B : Nat} {e : TypeId} {a b : World} {size n : Nat} {v : Value} {xs : List Value} (hB : B ≤ a.heap.size) (ho : a.ownsRow B e size v n xs) (h : a.grownBy b v.ownBlock) : Kept B e a b := by
  refine ⟨h.os, h.tape, h.output, h.size, fun k hk => h.block k (by omega) ?_, fun k hk hn => h.block k hk ?_⟩ <;>
  · rcases ho.2 with ⟨rfl, _⟩ | ⟨g, cap, cur, rfl, hg, hc, _⟩
    · simp [Value.ownBlock]
    · intro e'
      obtain rfl : k = g := by simpa [Value.ownBlock] using e'
      first
        | omega
        | exact hn _ _ hc

/-- A row of the call's own stays so, whatever is laid. -/
theorem _root_.Go.Proofs.Ytcofmfjhgbihkaa.kit.OwnI.below {w w' : World} {B e : Nat} {k : IntKind} {v : Value} {ns : List Nat} (h : OwnI w B e k v ns) (hb : Below w.heap.size w w') : OwnI w' B e k v ns := by
  obtain ⟨h1, h2⟩ := id h
  refine ⟨h1, ?_⟩
  rcases h2 with ⟨rfl, h0⟩ | ⟨g, cap, cur, rfl, hB, hg, hr⟩
  · exact .inl ⟨rfl, h0⟩
  · exact .inr ⟨g, cap, cur, rfl, hB, (hb.block g (Array.getElem?_eq_some_iff.1 hg).1).trans hg, hr⟩

/-- 'v = append(v, x...)' of numbers onto a slice of the call's own. -/
theorem appN {P : Program} {wr : World} {ops : Array Oper} {rest : List Oper} {o : Oper} {a : Act} {Q : Exit → Act → World → Prop} (hgd : o.guard = none) (s x : Operand) (t : TypeId)
    (ho : o.op = .call { callee := .builtin .append, args := #[s, x], argTypes := #[t, t] })
    (B e : Nat) (k : IntKind) (bytes : Nat) (ht : P.underlying t = some (.slice e)) (hi : (P.info? e).map (fun i => (i.zero, i.size, i.bytes)) = some (some (.int k 0), 1, bytes))
    (v : Value) (ns : List Nat) (hs : a.eval s = v) (hown : OwnI wr B e k v ns) (b off m c : Nat) (ms : List Nat) (hm : ms.length = m) (hx : a.eval x = .slice (some ⟨b, off, none⟩) m c)
    (hcell : ∀ j, j < m → wr.cell? ⟨b, off + j, none⟩ = some (.int k (ms.getD j 0 : Nat)))
    (h63 : ns.length + m ≤ maxLen) (hb : (ns.length + m) * bytes ≤ 140737488355328) (hB : B ≤ wr.heap.size)
    (h : ∀ v' w', OwnI w' B e k v' (ns ++ ms) → Kept B e wr w' → wpList P ops Q rest (a.put o.dst v') w') : wpList P ops Q (o :: rest) a wr := by
  obtain ⟨i0, hi, hz0, hz1, hz2⟩ := info_parts hi
  refine wpList_append_own wr hgd s x t ho B e i0 (.int k 0) 1 bytes ht hi hz0 hz1 hz2 rfl (by decide) v ns.length (ns.map fun n : Nat => Value.int k (n : Int)) hs hown ⟨b, off, none⟩ m c (ms.map fun n : Nat => Value.int k (n : Int)) hx (by simp [hm]) ?_ ?_ h63 hb hB ?_
  · intro j u hu
    have hj : j < ms.length := by simpa using (List.getElem?_eq_some_iff.1 hu).1
    rw [add_plain', hcell j (by omega)]
    rw [← hu]; simp [List.getD, hj]
  · intro u hu
    obtain ⟨_, _, rfl⟩ := List.mem_map.1 hu
    rfl
  · intro v' w' hown' hg _
    refine h v' w' ?_ (Kept.grown hB hown hg)
    unfold OwnI
    simpa [hm] using hown'

/-- 'v = append(v, c)' of one number onto a slice of the call's own. -/
theorem app1K {P : Program} {wr : World} {ops : Array Oper} {rest : List Oper} {o : Oper} {a : Act} {Q : Exit → Act → World → Prop} (hgd : o.guard = none) (s x : Operand) (t : TypeId)
    (ho : o.op = .call { callee := .builtin .append, args := #[s, x], argTypes := #[t, t] })
    (B e : Nat) (k : IntKind) (bytes : Nat) (ht : P.underlying t = some (.slice e)) (hi : (P.info? e).map (fun i => (i.zero, i.size, i.bytes)) = some (some (.int k 0), 1, bytes))
    (v : Value) (ns : List Nat) (hs : a.eval s = v) (hown : OwnI wr B e k v ns) (c : Nat) (z : Int) (hz : z = (c : Int)) (n : Nat) (hn : n = wr.heap.size) (hx : a.eval x = .slice (some ⟨n, 0, none⟩) 1 1)
    (h63 : ns.length + 1 ≤ maxLen) (hb : (ns.length + 1) * bytes ≤ 140737488355328) (hB : B ≤ wr.heap.size)
    (h : ∀ v' w', OwnI w' B e k v' (ns ++ [c]) → Kept B e wr w' → wpList P ops Q rest (a.put o.dst v') w') : wpList P ops Q (o :: rest) a (wr.alloc (.cells #[.int k z] e)) := by
  subst hz hn
  have hbel : Below wr.heap.size wr (wr.alloc (.cells #[.int k (c : Int)] e)) := (Below.refl _ _).alloc (Nat.le_refl _) _
  refine appN hgd s x t ho B e k bytes ht hi v ns hs ?_ wr.heap.size 0 1 1 [c] rfl hx ?_ h63 hb (by rw [World.size_alloc]; omega) ?_
  · exact hown.alloc _
  · intro j hj
    obtain rfl : j = 0 := by omega
    rw [World.cell?_alloc_at _ _ _ _ rfl]; rfl
  · intro v' w' ho hk
    exact h v' w' ho ((Kept.of_below hB hbel).trans hk)

theorem range_of_row {w : World} {b : Nat} {t : TypeId} {n : Nat} {f : Nat → Value} (h : w.rowIs b t n f) : w.rangeAt b 0 ((List.range n).map f) := by
  intro j v hv
  have hj : j < n := by simpa using (List.getElem?_eq_some_iff.1 hv).1
  have e : f j = v := by simpa [hj] using hv
  rw [Nat.zero_add, h.cell hj, e]
theorem there_of_row {w : World} {b : Nat} {t : TypeId} {n : Nat} {f : Nat → Value} (h : w.rowIs b t n f) : w.there b 0 n := by
  intro j hj
  rw [Nat.zero_add]
  exact ⟨by rw [h.cell hj]; rfl, h.frozen j⟩

/-- What is handed back of a variable of many cells. -/
theorem ret_cell {P : Program} {fn : Func} {t : Tmp} {T : TypeId} {tmps : Array Value} {w : World} {b : Nat} {cs : List Value} {d : TypeDesc} (h : fn.results = #[.cell t T]) (ht : tmps.getD t undef = .pointer (some ⟨b, 0, none⟩))
    (hc : w.rangeAt b 0 cs) (hu : P.underlying T = some d) (hd : d.isRow = true) (hi : (P.info? T).map (·.size) = some cs.length) : (results fn tmps).run P w = .ok (.agg cs.toArray) w := by
  have := run_loadVar_mid w b 0 T cs d hc hu hd hi
  have ht' : tmps[t]?.getD undef = .pointer (some ⟨b, 0, none⟩) := by simpa using ht
  simp [results, h, ht', asAddr, this]

/-- .. and a number beside it. -/
theorem ret_cell_tmp {P : Program} {fn : Func} {t u : Tmp} {T : TypeId} {tmps : Array Value} {w : World} {b : Nat} {cs : List Value} {d : TypeDesc} (h : fn.results = #[.cell t T, .tmp u]) (ht : tmps.getD t undef = .pointer (some ⟨b, 0, none⟩))
    (hc : w.rangeAt b 0 cs) (hu : P.underlying T = some d) (hd : d.isRow = true) (hi : (P.info? T).map (·.size) = some cs.length) : (results fn tmps).run P w = .ok (.tuple #[.agg cs.toArray, tmps.getD u undef]) w := by
  have := run_loadVar_mid w b 0 T cs d hc hu hd hi
  have ht' : tmps[t]?.getD undef = .pointer (some ⟨b, 0, none⟩) := by simpa using ht
  simp [results, h, ht', asAddr, this]

theorem Below.setCells {B : Nat} {w w' : World} (h : Below B w w') {b : Nat} (hb : B ≤ b) (o : Nat) (vs : List Value) : Below B w (w'.setCells b o vs) := by
  induction vs generalizing w' o with
  | nil => exact h
  | cons v r ih => exact ih (h.setCell (p := ⟨b, o, none⟩) hb v) (o + 1)


/-- .. of a variable of one cell. -/
theorem ret_cell_one {P : Program} {fn : Func} {t : Tmp} {T e : TypeId} {tmps : Array Value} {w : World} {b : Nat} {v : Value} (h : fn.results = #[.cell t T]) (ht : tmps.getD t undef = .pointer (some ⟨b, 0, none⟩))
    (hc : w.cell? ⟨b, 0, none⟩ = some v) (hu : P.underlying T = some (.slice e)) : (results fn tmps).run P w = .ok v w := by
  have ht' : tmps[t]?.getD undef = .pointer (some ⟨b, 0, none⟩) := by simpa using ht
  have ha : (isAgg T).run P w = .ok false w := by
    unfold isAgg
    rw [Sem.run_bind, run_underlying hu w]
    simp
  simp [results, h, ht', asAddr, loadVar, Sem.run_bind, ha, hc]

theorem alloc_heap (w : World) (o : Obj) : (w.alloc o).heap = w.heap.push o := rfl

/-- A variable's box. -/
abbrev Box (W : World) (b : Nat) (t : TypeId) (v : Value) : Prop := W.heap[b]? = some (.cells #[v] t (0, 0))
theorem box_cell {W : World} {b : Nat} {t : TypeId} {v : Value} (h : Box W b t v) : W.cell? ⟨b, 0, none⟩ = some v := by simp [World.cell?, h]
theorem box_frozen {W : World} {b : Nat} {t : TypeId} {v : Value} (h : Box W b t v) : W.frozen? ⟨b, 0, none⟩ = false := by simp [World.frozen?, h]
theorem box_lt {W : World} {b : Nat} {t : TypeId} {v : Value} (h : Box W b t v) : b < W.heap.size := (Array.getElem?_eq_some_iff.1 h).1
theorem cell_other (w : World) (b : Nat) (v : Value) (k : Nat) (h : k ≠ b) : (w.setCell ⟨b, 0, none⟩ v).heap[k]? = w.heap[k]? := Below.heap_setCell w ⟨b, 0, none⟩ v k h
theorem box_set {W : World} {b : Nat} {t : TypeId} {v : Value} (h : Box W b t v) (v' : Value) : Box (W.setCell ⟨b, 0, none⟩ v') b t v' := Boxed.set v' h



theorem cell_lt {W : World} {a : Addr} {u : Value} (h : W.cell? a = some u) : a.block < W.heap.size := by
  rcases Nat.lt_or_ge a.block W.heap.size with g | g
  · exact g
  · have : W.heap[a.block]? = none := by simp [g]
    simp [World.cell?, this] at h

/-- A slice that is read reads so wherever all that lay lies still. -/
theorem _root_.Go.Proofs.Ytcofmfjhgbihkaa.kit.SlI.keep {w w' : World} {k : IntKind} {v : Value} {ns : List Nat} (h : SlI w k v ns) (hb : Below w.heap.size w w') : SlI w' k v ns := by
  obtain ⟨hl, a, cap, rfl, hc⟩ := h
  refine ⟨hl, a, cap, rfl, fun h0 => ?_⟩
  obtain ⟨b, off, rfl, hcell⟩ := hc h0
  exact ⟨b, off, rfl, fun j hj => (hb.cell (p := ⟨b, off + j, none⟩) (cell_lt (hcell j hj))).trans (hcell j hj)⟩

/-- A stretch of a slice that is read. -/
theorem sub_read {w : World} {k : IntKind} {a : Option Addr} {ns : List Nat} {cap lo hi : Nat} (h : SlI w k (.slice a ns.length cap) ns) (hlh : lo ≤ hi) (hn : hi ≤ ns.length) {a' : Option Addr} {cap' : Nat}
    (ha : lo < hi → ∀ b off, a = some ⟨b, off, none⟩ → a' = some ⟨b, off + lo, none⟩) : SlI w k (.slice a' (hi - lo) cap') ((ns.take hi).drop lo) := by
  obtain ⟨hl, a0, cap0, e, hc⟩ := h
  cases e
  have e1 : ((ns.take hi).drop lo).length = hi - lo := by rw [List.length_drop, List.length_take]; omega
  refine ⟨by omega, a', cap', by rw [e1], fun h0 => ?_⟩
  rw [e1] at h0 ⊢
  obtain ⟨b, off, rfl, hcell⟩ := hc (by omega)
  refine ⟨b, off + lo, ha (by omega) b off rfl, fun j hj => ?_⟩
  rw [Nat.add_assoc, hcell (lo + j) (by omega)]
  have h1 : lo + j < ns.length := by omega
  have h2 : lo + j < (ns.take hi).length := by rw [List.length_take]; omega
  have h3 : j < ((ns.take hi).drop lo).length := by omega
  simp only [List.getD, List.getElem?_eq_getElem h1, List.getElem?_eq_getElem h3, List.getElem_drop, List.getElem_take, Option.getD_some]

/-- 'v = append(v, x...)' of a slice that is read, nil or not, onto a slice of the call's own. -/
theorem appS {P : Program} {wr : World} {ops : Array Oper} {rest : List Oper} {o : Oper} {a : Act} {Q : Exit → Act → World → Prop} (hgd : o.guard = none) (s x : Operand) (t : TypeId)
    (ho : o.op = .call { callee := .builtin .append, args := #[s, x], argTypes := #[t, t] })
    (B e : Nat) (k : IntKind) (bytes : Nat) (ht : P.underlying t = some (.slice e)) (hi : (P.info? e).map (fun i => (i.zero, i.size, i.bytes)) = some (some (.int k 0), 1, bytes))
    (v : Value) (ns : List Nat) (hs : a.eval s = v) (hown : OwnI wr B e k v ns) (vx : Value) (ms : List Nat) (hx : a.eval x = vx) (hr : SlI wr k vx ms) (hcap : ∀ n c, vx = .slice none n c → c = 0)
    (h63 : ns.length + ms.length ≤ maxLen) (hb : (ns.length + ms.length) * bytes ≤ 140737488355328) (hB : B ≤ wr.heap.size)
    (h : ∀ v' w', OwnI w' B e k v' (ns ++ ms) → Kept B e wr w' → wpList P ops Q rest (a.put o.dst v') w') : wpList P ops Q (o :: rest) a wr := by
  obtain ⟨hl, ax, cx, rfl, hc⟩ := hr
  cases ax with
  | none =>
    obtain rfl := hcap _ _ rfl
    have h0 : ms.length = 0 := by
      rcases Nat.eq_zero_or_pos ms.length with h0 | h0
      · exact h0
      · obtain ⟨b, off, e', _⟩ := hc h0
        cases e'
    obtain rfl : ms = [] := List.eq_nil_of_length_eq_zero h0
    obtain ⟨i0, hi, hz0, hz1, hz2⟩ := info_parts hi
    refine wpList_append_own_none hgd s x t ho B e i0 1 ht hi v ns.length _ hs hown hx ?_
    have := h v wr (by rw [List.append_nil]; exact hown) (Kept.refl _ _ _)
    exact this
  | some ax =>
    obtain ⟨b, off, spot⟩ := ax
    rcases Nat.eq_zero_or_pos ms.length with h0 | h0
    · obtain rfl : ms = [] := List.eq_nil_of_length_eq_zero h0
      obtain ⟨i0, hi, hz0, hz1, hz2⟩ := info_parts hi
      refine wpList_append_own wr hgd s x t ho B e i0 (.int k 0) 1 bytes ht hi hz0 hz1 hz2 rfl (by decide) v ns.length (ns.map fun n : Nat => Value.int k (n : Int)) hs hown ⟨b, off, spot⟩ 0 cx [] hx (by simp) ?_ ?_ h63 hb hB ?_
      · intro j u hu; simp at hu
      · intro u hu; simp at hu
      · intro v' w' hown' hg _
        refine h v' w' ?_ (Kept.grown hB hown hg)
        unfold OwnI
        simpa using hown'
    · obtain ⟨b', off', e', hcell⟩ := hc h0
      cases e'
      exact appN hgd s x t ho B e k bytes ht hi v ns hs hown b off ms.length cx ms rfl hx hcell h63 hb hB h

theorem alloc_at (w : World) (o : Obj) : (w.alloc o).heap[w.heap.size]? = some o := by rw [alloc_heap]; simp

/-- '[]byte{}': a slice of the call's own without a place. -/
theorem own_empty (w : World) (e : TypeId) (k : IntKind) : OwnI (w.alloc (.cells #[] e)) w.heap.size e k (.slice (some ⟨w.heap.size, 0, none⟩) 0 0) [] :=
  ⟨by simp, .inr ⟨w.heap.size, 0, #[], rfl, Nat.le_refl _, alloc_at w _, by simp, by simp [maxLen], by simp, by simp⟩⟩

/-- A slice that was just built. -/
theorem own_built (w : World) (e : TypeId) (k : IntKind) (ns : List Nat) (n : Nat) (hn : n = w.heap.size) (cs : Array Value) (hcs : cs = (ns.map fun n : Nat => Value.int k (n : Int)).toArray) (B : Nat) (hB : B ≤ n) (hm : ns.length ≤ maxLen) :
    OwnI (w.alloc (.cells cs e)) B e k (.slice (some ⟨n, 0, none⟩) ns.length ns.length) ns := by
  subst hn hcs
  exact ⟨by simp, .inr ⟨w.heap.size, ns.length, _, rfl, hB, alloc_at w _, Nat.le_refl _, hm, by simp, by rw [List.take_of_length_le] <;> simp⟩⟩

end Go.Proofs.Ytcofmfjhgbihkaa.own
