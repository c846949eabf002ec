/- The cache: a sector's first write is put behind the others. -/
import Derived.Test.YtkhghkklekjdaaaDoorRows
import Derived.Test.YtkhghkklekjdaaaDoorSectorCache
import Derived.Maps.AppendAt
import Derived.Great.BuildSlice
import Derived.RegionTactic
namespace Go.Proofs.YtkhghkklekjdaaaDoor.sector
open Go.RowKit
open Go.Proofs.YtkhghkklekjdaaaDoor.kit Go.Proofs.YtkhghkklekjdaaaDoor.own
set_option linter.unusedVariables false

theorem infoInt : (Tryd.prog.info? 3).map (fun i => (i.zero, i.size, i.bytes)) = some (some (.int .i64 0), 1, 8) := by kernel_rfl

/-- 'v = append(v, c)' of one number onto a row of the call's own: only the row's block is turned, of those that lay. -/
theorem app1G {P : Program} {wr : World} {ops : Array Oper} {rest : List Oper} {o : Oper} {a : Act} {Q : Exit → Act → World → Prop} (hgd : o.guard = none) (s x : Operand) (t : TypeId)
    (ho : o.op = .call { callee := .builtin .append, args := #[s, x], argTypes := #[t, t] })
    (B e : Nat) (k : IntKind) (bytes : Nat) (ht : P.underlying t = some (.slice e)) (hi : (P.info? e).map (fun i => (i.zero, i.size, i.bytes)) = some (some (.int k 0), 1, bytes))
    (v : Value) (ns : List Nat) (hs : a.eval s = v) (hown : OwnI wr B e k v ns) (c : Nat) (n : Nat) (hn : n = wr.heap.size) (hx : a.eval x = .slice (some ⟨n, 0, none⟩) 1 1)
    (h63 : ns.length + 1 ≤ maxLen) (hb : (ns.length + 1) * bytes ≤ 140737488355328) (hB : B ≤ wr.heap.size)
    (h : ∀ v' w', OwnI w' B e k v' (ns ++ [c]) → wr.grownBy w' v.ownBlock → (∀ g, v'.ownBlock = some g → v.ownBlock = some g ∨ wr.heap.size ≤ g) → wpList P ops Q rest (a.put o.dst v') w') : wpList P ops Q (o :: rest) a (wr.alloc (.cells #[.int k (c : Int)] e)) := by
  subst hn
  obtain ⟨i0, hi, hz0, hz1, hz2⟩ := info_parts hi
  refine wpList_append_own_at _ hgd s x t ho B e i0 (.int k 0) 1 bytes ht hi hz0 hz1 hz2 rfl (by decide) v ns.length (ns.map fun n : Nat => Value.int k (n : Int)) hs (hown.alloc _) ⟨wr.heap.size, 0, none⟩ 1 1 [.int k (c : Int)] hx rfl ?_ ?_ h63 hb (by simp; omega) ?_
  · intro j u hj
    match j, hj with
    | 0, hj => simp at hj; subst hj; rw [add_plain', World.cell?_alloc_at _ _ _ _ rfl]; rfl
  · intro u hu; simp at hu; subst hu; rfl
  · intro v' w' hown' hg _ hat
    refine h v' w' ?_ ?_ ?_
    · unfold OwnI
      simpa using hown'
    · have hz := hg.size
      rw [World.size_alloc] at hz
      refine ⟨hg.os, hg.tape, hg.output, by omega, fun q hq hne => (hg.block q (by rw [World.size_alloc]; omega) hne).trans ?_⟩
      rw [alloc_heap, Array.getElem?_push, if_neg (by omega)]
    · intro g hg'
      rcases hat with hat | hat
      · exact .inl (hat.symm.trans hg')
      · rw [hat] at hg'
        cases hg'
        exact .inr (by simp)

theorem step_load_mid {P : Program} {ops : Array Oper} {o : Oper} {a : Act} {w : World} {K : Act → World → Prop} {Q : Exit → Act → World → Prop} {E : Prop} (hgd : o.guard = none) (ty : TypeId) (x : Operand) (ho : o.op = .load ty x)
    (b off : Nat) (hx : a.eval x = .pointer (some ⟨b, off, none⟩)) (cs : List Value) (d : TypeDesc) (hc : w.rangeAt b off cs)
    (hu : P.underlying ty = some d) (hd : d.isRow = true) (hi : (P.info? ty).map (·.size) = some cs.length) (h : K (a.put o.dst (.agg cs.toArray)) w) :
    if Region.wanted o (yielded ops a.tmps) = true then Oper.wp P o a w K Q else E := by
  rw [if_pos (by simp [Region.wanted, hgd])]
  exact wp_load_mid ty x ho b off hx cs d hc hu hd hi h
theorem step_build1 {P : Program} {ops : Array Oper} {o : Oper} {a : Act} {w : World} {K : Act → World → Prop} {Q : Exit → Act → World → Prop} {E : Prop} (hgd : o.guard = none) (t e : TypeId) (x : Operand) (ho : o.op = .buildSlice t 1 #[(0, x)])
    (cells : Array Value) (hx : a.eval x = .agg cells) (h64 : cells.size = 64) (hu : P.underlying t = some (.slice e)) (hi : (P.info? e).map (fun i => (i.zero.map (·.cells.size), i.size)) = some (some 64, 64))
    (h : K (a.put o.dst (.slice (some ⟨w.heap.size, 0, none⟩) 1 1)) (w.alloc (.cells cells e))) :
    if Region.wanted o (yielded ops a.tmps) = true then Oper.wp P o a w K Q else E := by
  rw [if_pos (by simp [Region.wanted, hgd])]
  cases hie : P.info? e with
  | none => simp [hie] at hi
  | some ie =>
    simp [hie] at hi
    obtain ⟨⟨z, hz, hzs⟩, hs⟩ := hi
    refine wp_buildSlice t e 1 _ ho cells ie z hu hie hz (by rw [hs]; decide) (by rw [hs]; decide) ?_ h
    have h1 := Great.fill_whole (s := 64) (by decide) [.agg cells] ((Array.range (1 * ie.size)).map (z.cells[· % z.cells.size]!)) (by intro v hv; simp at hv; subst hv; exact h64) (by simp [hs])
    rw [hs] at h1 ⊢
    have e1 : ([Value.agg cells].flatMap fun v => v.cells.toList).toArray = cells := by simp [Value.cells]
    rw [e1] at h1
    rw [← h1]
    simp [hx]
theorem step_append_own_at {P : Program} {ops : Array Oper} {o : Oper} {a : Act} {w : World} {K : Act → World → Prop} {Q : Exit → Act → World → Prop} {E : Prop} (hgd : o.guard = none) (s x : Operand) (t : TypeId)
    (ho : o.op = .call { callee := .builtin .append, args := #[s, x], argTypes := #[t, t] })
    (base : Nat) (e : TypeId) (i : TypeInfo) (z : Value) (size bytes : Nat) (ht : P.underlying t = some (.slice e)) (hi : P.info? e = some i) (hz : i.zero = some z)
    (hsize : i.size = size) (hby : i.bytes = bytes) (hzs : z.cells.size = size) (hsz : 0 < size)
    (v : Value) (n : Nat) (xs : List Value) (hs : a.eval s = v) (hown : w.ownsRow base e size v n xs)
    (ad : Addr) (m c : Nat) (news : List Value) (hx : a.eval x = .slice (some ad) m c) (hl : news.length = m * size) (hnews : ∀ j u, news[j]? = some u → w.cell? (ad.add j) = some u) (h1 : ∀ u ∈ news, u.oneCell' = true)
    (h63 : n + m ≤ maxLen) (hbytes : (n + m) * bytes ≤ 140737488355328) (hbase : base ≤ w.heap.size)
    (h : ∀ v' w', w'.ownsRow base e size v' (n + m) (xs ++ news) → w.grownBy w' v.ownBlock → (v' = .slice none 0 0 ↔ v = .slice none 0 0 ∧ m = 0) → (v'.ownBlock = v.ownBlock ∨ v'.ownBlock = some w.heap.size) → K (a.put o.dst v') w') :
    if Region.wanted o (yielded ops a.tmps) = true then Oper.wp P o a w K Q else E := by
  rw [if_pos (by simp [Region.wanted, hgd])]
  obtain ⟨v', w', hr, h2, h3, h4, h5⟩ := run_append_own_at (P := P) w base t o.type e i z size bytes ht hi hz hsize hby hzs hsz v n xs hown ad m c news hl hnews h1 h63 hbytes hbase
  unfold Oper.wp execOp
  simp only [ho, resolve, invoke, builtin, Sem.run_bind, Sem.run_pure, Result.andThen_ok, List.map_toArray, List.map_cons, List.map_nil, hs, hx, hr]
  exact h v' w' h2 h3 h4 h5
theorem infoBlkZ : (Tryd.prog.info? 61).map (fun i => (i.zero.map (·.cells.size), i.size)) = some (some 64, 64) := by kernel_rfl
theorem infoBlkB : (Tryd.prog.info? 61).map (fun i => (i.zero.map (·.cells.size), i.size, i.bytes)) = some (some 64, 64, 64) := by kernel_rfl
theorem blk_parts {P : Program} {e : TypeId} (hi : (P.info? e).map (fun i => (i.zero.map (·.cells.size), i.size, i.bytes)) = some (some 64, 64, 64)) : ∃ i z, P.info? e = some i ∧ i.zero = some z ∧ i.size = 64 ∧ i.bytes = 64 ∧ z.cells.size = 64 := by
  cases hie : P.info? e with
  | none => simp [hie] at hi
  | some ie =>
    simp [hie] at hi
    obtain ⟨⟨z, hz, hzs⟩, hs, hb⟩ := hi
    exact ⟨ie, z, rfl, hz, hs, hb, hzs⟩

theorem flat_app (c : List (Nat × List Nat)) (p : Nat × List Nat) : flat (c ++ [p]) = flat c ++ p.2 := by simp [flat]
theorem keys_app (c : List (Nat × List Nat)) (p : Nat × List Nat) : keys (c ++ [p]) = keys c ++ [p.1] := by simp [keys]
theorem keys_out {c : List (Nat × List Nat)} {k : Nat} (hb : ∀ i, i < c.length → (keys c).getD i 0 ≠ k) : k ∉ keys c := by
  intro hk
  obtain ⟨i, hi, he⟩ := List.mem_iff_getElem.1 hk
  refine hb i (by simpa using hi) ?_
  simp only [List.getD, List.getElem?_eq_getElem hi, Option.getD_some]
  exact he
/-- Numbers below n, each once, are no more than n. -/
theorem once_len : ∀ (n : Nat) (l : List Nat), l.Nodup → (∀ x ∈ l, x < n) → l.length ≤ n
  | 0, l, _, h => by
    cases l with
    | nil => simp
    | cons x l => have := h x (by simp); omega
  | n + 1, l, hn, h => by
    have h1 := once_len n (l.erase n) (hn.erase n) (fun x hx => by
      have h2 := h x (List.mem_of_mem_erase hx)
      have h3 : x ≠ n := fun e => by
        subst e
        exact (List.Nodup.not_mem_erase hn) hx
      omega)
    have h4 := List.length_erase (l := l) (a := n)
    split at h4 <;> omega
theorem Dev.Ok.len {m : Dev} (h : m.Ok) : m.cache.length ≤ 4096 := by
  have := once_len m.n (keys m.cache) h.once (fun x hx => by
    obtain ⟨p, hp, rfl⟩ := List.mem_map.1 hx
    exact (h.cache p hp).1)
  rw [keys_len] at this
  exact Nat.le_trans this h.n

/-- What was put behind the others. -/
def putNew (m : Dev) (k : Nat) (x : List Nat) : Dev := { m with cache := m.cache ++ [(k, x)] }
theorem putNew_ok {m : Dev} (h : m.Ok) {k : Nat} {x : List Nat} (hb : ∀ i, i < m.cache.length → (keys m.cache).getD i 0 ≠ k) (hx : x.length = 64) (h8 : ∀ y ∈ x, y < 256) (hkn : k < m.n) : (putNew m k x).Ok :=
  ⟨h.n, h.laid, h.laidLt, fun p hp => by
    rcases List.mem_append.1 hp with h1 | h1
    · exact h.cache p h1
    · simp at h1; subst h1; exact ⟨hkn, hx, h8⟩, by
    show (keys (m.cache ++ [(k, x)])).Nodup
    rw [keys_app]
    have := keys_out hb
    rw [List.nodup_append]
    exact ⟨h.once, by simp, fun a ha b hb' => by simp at hb'; subst hb'; intro e; subst e; exact this ha⟩, h.cut, h.ws, h.fs⟩

theorem row_form {w : World} {B e size n : Nat} {v : Value} {xs : List Value} (h : w.ownsRow B e size v n xs) (h0 : 0 < n) : ∃ g cap, v = .slice (some ⟨g, 0, none⟩) n cap := by
  rcases h.2 with ⟨_, h1⟩ | ⟨g, cap, cur, rfl, _⟩
  · omega
  · exact ⟨g, cap, rfl⟩
theorem own_form {w : World} {B e : Nat} {k : IntKind} {v : Value} {ns : List Nat} (h : OwnI w B e k v ns) (n : Nat) (hn : ns.length = n) (h0 : 0 < n) : ∃ g cap, v = .slice (some ⟨g, 0, none⟩) n cap := by
  subst hn
  rcases h.2 with ⟨_, h1⟩ | ⟨g, cap, cur, rfl, _⟩
  · omega
  · exact ⟨g, cap, rfl⟩

/-- A box's cell is written that names a row of the call's own. -/
theorem Lies.order_set {w w1 : World} {Z : Nat → Prop} {d : Nat} {m : Dev} {vo vb vl : Value} (h : Lies w Z d m vo vb vl) {v' : Value} {k : Nat} (hg : w.grownBy w1 vo.ownBlock) (ho : OwnI w1 0 3 .i64 v' (keys m.cache ++ [k])) (hat : ∀ g, v'.ownBlock = some g → vo.ownBlock = some g ∨ w.heap.size ≤ g) :
    w1.heap[d]? = w.heap[d]? ∧ w1.ownsRow 0 61 64 vb m.cache.length (bv (flat m.cache)) ∧ w1.ownsRow 0 61 64 vl m.n (bv m.laid) ∧ (∀ g, v'.ownBlock = some g → More Z w w1 g) := by
  refine ⟨hg.block d h.lt (fun e => own_ne_box h.order h.box (by decide) e.symm), own_stays h.blocks (fun g hg' => hg.block g (h.blocks.lt g hg').2 (fun e => own_ne h.blocks h.order (by decide) hg' e.symm)),
    own_stays h.laid (fun g hg' => hg.block g (h.laid.lt g hg').2 (fun e => own_ne h.laid h.order (by decide) hg' e.symm)), fun g hg' => ?_⟩
  rcases hat g hg' with h1 | h1
  · exact .inl (h.zo g h1)
  · exact .inr ⟨h1, (ho.lt g hg').2⟩

theorem More.up {Z : Nat → Prop} {a b c : World} (hz : b.heap.size ≤ c.heap.size) {k : Nat} (h : More Z a b k) : More Z a c k := by
  rcases h with h | h
  · exact .inl h
  · exact .inr ⟨h.1, by omega⟩

theorem put_end {w W2 w3 : World} {Z : Nat → Prop} {d : Nat} {m : Dev} {k : Nat} {x : List Nat} {vo vb vl v1 v3 : Value} (hl : Lies w Z d m vo vb vl) (hp : (putNew m k x).Ok)
    (ho2 : OwnI W2 0 3 .i64 v1 (keys m.cache ++ [k])) (hl2 : W2.ownsRow 0 61 64 vl m.n (bv m.laid)) (hb2 : W2.ownsRow 0 61 64 vb m.cache.length (bv (flat m.cache))) (hd2 : W2.heap[d]? = some (.cells (devCells m v1 vb vl) 69 (0, 0)))
    (ht2 : Turn Z w W2) (hz1 : ∀ g, v1.ownBlock = some g → More Z w W2 g)
    (ho3 : w3.ownsRow 0 61 64 v3 (m.cache.length + 1) (bv (flat m.cache) ++ bv x)) (hg3 : (W2.drew.alloc (.cells (ba x) 61)).grownBy w3 vb.ownBlock)
    (ha3 : v3.ownBlock = vb.ownBlock ∨ v3.ownBlock = some (W2.drew.alloc (.cells (ba x) 61)).heap.size) (hd3 : w3.heap[d]? = some (.cells (devCells m v1 vb vl) 69 (0, 0))) :
    DevAt (w3.setCell ⟨d, 1, none⟩ v3) (More Z w (w3.setCell ⟨d, 1, none⟩ v3)) d (putNew m k x) ∧ Turn Z w (w3.setCell ⟨d, 1, none⟩ v3) := by
  have hs4 : (W2.drew.alloc (.cells (ba x) 61)).heap.size = W2.heap.size + 1 := by simp
  have hs3 := hg3.size
  have hsz : (w3.setCell ⟨d, 1, none⟩ v3).heap.size = w3.heap.size := by simp
  have hs2 := ht2.size
  rw [hs4] at hs3
  have old : ∀ g, g < W2.heap.size → some g ≠ vb.ownBlock → g ≠ d → (w3.setCell ⟨d, 1, none⟩ v3).heap[g]? = W2.heap[g]? := fun g hg hne hgd =>
    (heap_setCell_other w3 _ g _ hgd).trans ((hg3.block g (by omega) hne).trans (heap_alloc_old W2.drew _ hg))
  have nd : ∀ {v : Value} {e size n : Nat} {xs : List Value}, W2.ownsRow 0 e size v n xs → e ≠ 69 → ∀ g, v.ownBlock = some g → g ≠ d := fun h he g hg e => own_ne_box h hd2 he (by rw [← e]; exact hg)
  refine ⟨⟨hp, v1, v3, vl, ?_, ?_, ?_, ?_, ?_, .inl hl.zd, ?_, ?_, ?_, ?_⟩, ?_⟩
  · rw [cell_set v3 hd3]
    simp [devCells, putNew, isCut, cutLeft, cutPick]
  · show OwnI _ 0 3 .i64 v1 (keys (m.cache ++ [(k, x)]))
    rw [keys_app]
    exact own_stays ho2 (fun g hg => old g (ho2.lt g hg).2 (fun e => own_ne (e := 3) ho2 hb2 (by decide) hg e.symm) (nd (e := 3) ho2 (by decide) g hg))
  · show World.ownsRow _ 0 61 64 v3 (m.cache ++ [(k, x)]).length (bv (flat (m.cache ++ [(k, x)])))
    rw [flat_app, bv_app, List.length_append]
    exact own_stays ho3 (fun g hg => heap_setCell_other w3 _ g _ (fun e => own_ne_box ho3 hd3 (by decide) (by rw [hg]; exact congrArg some e)))
  · exact own_stays hl2 (fun g hg => old g (hl2.lt g hg).2 (fun e => hl.apart g e.symm hg) (nd hl2 (by decide) g hg))
  · intro g hg hg'
    rcases ha3 with h | h
    · exact hl.apart g (h.symm.trans hg) hg'
    · rw [h] at hg
      cases hg
      have := (hl2.lt _ hg').2
      omega
  · intro g hg
    exact (hz1 g hg).up (by omega)
  · intro g hg
    rcases ha3 with h | h
    · exact .inl (hl.zb g (h.symm.trans hg))
    · have hlt := (ho3.lt g hg).2
      rw [h] at hg
      cases hg
      exact .inr ⟨by omega, by omega⟩
  · intro g hg
    exact .inl (hl.zl g hg)
  · intro g hg
    rcases hg with hg | hg
    · have := hl.zlt g hg; omega
    · exact hg.2
  · refine ht2.trans' (Turn.trans' (b := w3) ⟨hg3.os, hg3.tape, hg3.output, by omega, fun q hq hn => (hg3.block q (by omega) (fun e => hn (hl.zb q e.symm))).trans (heap_alloc_old W2.drew _ hq)⟩ (turn_setCell _ hl.zd))

set_option maxHeartbeats 1000000 in
set_option maxRecDepth 100000 in
theorem put_miss (w : World) (Z : Nat → Prop) (d : Nat) (m : Dev) (h : DevAt w Z d m) (k : Nat) (x : List Nat) (hx : x.length = 64) (h8 : ∀ y ∈ x, y < 256) (hkn : k < m.n)
    (hb : ∀ i, i < m.cache.length → (keys m.cache).getD i 0 ≠ k) :
    Calls Tryd.prog 70 #[.pointer (some ⟨d, 0, none⟩), .int .i64 k, .agg (ba x)] w (Does w Z d (putNew m k x) (.returned (.tuple #[]))) := by
  obtain ⟨ho, vo, vb, vl, hl⟩ := h
  have HL := Lib.hid hl; have HO := Lib.hid ho
  have c0 := hl.cell 0
  simp [devCells] at c0
  have HI := Lib.hid (fun W (hW : OwnI W 0 3 .i64 vo (keys m.cache)) => Index_miss vo (keys m.cache) k W hW.read (by simpa using hb))
  have HX := Lib.hid hx; have HPo := Lib.hid (putNew_ok ho hb hx h8 hkn)
  have HLen := Lib.hid ho.len
  have hlt := hl.lt
  clear hl ho hb hx h8 hkn
  have HA := Lib.hid ((Below.refl w.heap.size w).alloc (Nat.le_refl _) (.cells (ba x) 61))
  have HLa := Lib.hid (HL.out.stays (fun q hq => HA.out.block q (HL.out.zlt q hq)) HA.out.size)
  have HBx := Lib.hid (alloc_at w (.cells (ba x) 61))
  have HSz := Lib.hid (show (w.alloc (.cells (ba x) 61)).heap.size = w.heap.size + 1 by simp)
  have c0' := (HA.out.cell (p := ⟨d, 0, none⟩) hlt).trans c0
  go_enter Tryd.func70, Tryd.ntmps70
  go_upto_region 1 with fail
  clear c0
  generalize (w.alloc (.cells _ 61)) = W0 at HA HLa HBx HSz c0' ⊢
  go_wp2_with fail
  refine (HI.out W0 HLa.out.order).mono ?_
  rintro e w' ⟨rfl, rfl⟩
  have f0 := HLa.out.free 0
  go_wp2_with (at_builtin; refine app1G rfl (.tmp 26) (.tmp 28) 51 rfl 0 3 .i64 8 Tryd.underlying51 infoInt _ (keys m.cache) rfl HLa.out.order k _ rfl rfl ?_ ?_ (Nat.zero_le _) ?_)
  case refine_1 => have := HLen.out; simp [maxLen]; omega
  case refine_2 => have := HLen.out; simp; omega
  case refine_3 =>
    intro v1 w1 ho1 hg1 hat1
    obtain ⟨g1, cap1, rfl⟩ := own_form ho1 (m.cache.length + 1) (by simp) (by omega)
    have ho1' : OwnI w1 0 3 .i64 (.slice (some ⟨g1, 0, none⟩) (m.cache.length + 1) cap1) (keys m.cache ++ [k]) := ho1
    obtain ⟨e1, e2, e3, e4⟩ := HLa.out.order_set hg1 ho1' hat1
    have HZ1 := Lib.hid e4
    have HG1 := Lib.hid hg1
    have hb1 := e1.trans HLa.out.box
    have c0 := (World.cell?_of_block (a := ⟨d, 0, none⟩) e1).trans c0'
    have f0' := (World.frozen?_of_block (a := ⟨d, 0, none⟩) e1).trans f0
    have hdv : (Value.slice (some ⟨g1, 0, none⟩) (m.cache.length + 1) cap1).ownBlock ≠ some d := own_ne_box (e := 3) ho1 hb1 (by decide)
    have hdb : vb.ownBlock ≠ some d := own_ne_box e2 hb1 (by decide)
    have hdl : vl.ownBlock ≠ some d := own_ne_box e3 hb1 (by decide)
    have HO2 := Lib.hid (show OwnI (w1.setCell ⟨d, 0, none⟩ (.slice (some ⟨g1, 0, none⟩) (m.cache.length + 1) cap1)) 0 3 .i64 (.slice (some ⟨g1, 0, none⟩) (m.cache.length + 1) cap1) (keys m.cache ++ [k]) from own_stays ho1' (fun g hg => heap_setCell_other w1 _ g _ (fun e => hdv (hg.trans (congrArg some e)))))
    have HB2 := Lib.hid (show (w1.setCell ⟨d, 0, none⟩ (.slice (some ⟨g1, 0, none⟩) (m.cache.length + 1) cap1)).ownsRow 0 61 64 vb m.cache.length (bv (flat m.cache)) from own_stays e2 (fun g hg => heap_setCell_other w1 _ g _ (fun e => hdb (hg.trans (congrArg some e)))))
    have HL2 := Lib.hid (show (w1.setCell ⟨d, 0, none⟩ (.slice (some ⟨g1, 0, none⟩) (m.cache.length + 1) cap1)).ownsRow 0 61 64 vl m.n (bv m.laid) from own_stays e3 (fun g hg => heap_setCell_other w1 _ g _ (fun e => hdl (hg.trans (congrArg some e)))))
    have HD2 := Lib.hid (show (w1.setCell ⟨d, 0, none⟩ (.slice (some ⟨g1, 0, none⟩) (m.cache.length + 1) cap1)).heap[d]? = some (.cells (devCells m (.slice (some ⟨g1, 0, none⟩) (m.cache.length + 1) cap1) vb vl) 69 (0, 0)) by rw [cell_set (.slice (some ⟨g1, 0, none⟩) (m.cache.length + 1) cap1) hb1]; simp [devCells])
    have HX2 := Lib.hid (show (w1.setCell ⟨d, 0, none⟩ (.slice (some ⟨g1, 0, none⟩) (m.cache.length + 1) cap1)).heap[w.heap.size]? = some (.cells (ba x) 61 (0, 0)) from
      (heap_setCell_other w1 _ w.heap.size _ (by have := hlt; simp only; omega)).trans ((hg1.block w.heap.size (by have := HSz.out; omega) (fun e => own_ne_box HLa.out.order HBx.out (by decide) e.symm)).trans HBx.out))
    have HT2 := Lib.hid (show Turn Z w (w1.setCell ⟨d, 0, none⟩ (.slice (some ⟨g1, 0, none⟩) (m.cache.length + 1) cap1)) from
      ((Turn.of_below HA.out).trans' ⟨hg1.os, hg1.tape, hg1.output, hg1.size, fun q hq hn => hg1.block q hq (fun e => hn (HL.out.zo q e.symm))⟩).trans' (turn_setCell _ HL.out.zd))
    have HS2 := Lib.hid (show w1.heap.size ≤ (w1.setCell ⟨d, 0, none⟩ (.slice (some ⟨g1, 0, none⟩) (m.cache.length + 1) cap1)).heap.size by simp)
    clear ho1 ho1' hg1 hat1 e1 e2 e3 e4 hb1 f0 c0'
    go_upto_region 5 with fail
    clear c0 f0'
    generalize (w1.setCell ⟨d, 0, none⟩ (.slice (some ⟨g1, 0, none⟩) (m.cache.length + 1) cap1)) = W2 at HO2 HB2 HL2 HD2 HX2 HT2 HS2 ⊢
    have c1 : W2.cell? ⟨d, 1, none⟩ = some vb := by simp [World.cell?, HD2.out, devCells]
    have HBd := Lib.hid (show (W2.drew.alloc (.cells (ba x) 61)).ownsRow 0 61 64 vb m.cache.length (bv (flat m.cache)) from (own_stays (w' := W2.drew) HB2.out (fun _ _ => rfl)).alloc _)
    have HDd := Lib.hid (show (W2.drew.alloc (.cells (ba x) 61)).heap[d]? = some (.cells (devCells m (.slice (some ⟨g1, 0, none⟩) (m.cache.length + 1) cap1) vb vl) 69 (0, 0)) from (heap_alloc_old W2.drew _ (Array.getElem?_eq_some_iff.1 HD2.out).1).trans HD2.out)
    have HNw := Lib.hid (show ∀ j u, (bv x)[j]? = some u → (W2.drew.alloc (.cells (ba x) 61)).cell? ((⟨W2.heap.size, 0, none⟩ : Addr).add j) = some u from fun j u hu => by
      rw [add_plain']
      exact range_of_block (b := W2.heap.size) (cs := bv x) (alloc_at W2.drew _) j u hu)
    have HZw := Lib.hid (show ∀ g, (Value.slice (some ⟨g1, 0, none⟩) (m.cache.length + 1) cap1).ownBlock = some g → More Z w W2 g from fun g hg => by
      rcases HZ1.out g hg with h | h
      · exact .inl h
      · have h1 := HA.out.size; have h2 := HS2.out
        exact .inr ⟨by omega, by omega⟩)
    have HRn := Lib.hid (show W2.drew.rangeAt w.heap.size 0 (bv x) from range_of_block (w := W2.drew) HX2.out)
    have hlt2 : d < W2.heap.size := (Array.getElem?_eq_some_iff.1 HD2.out).1
    refine wp_region_any (by kernel_rfl) ?_
    change wpAny _ _ _ _ _ _ _ (World.drew _)
    refine wpAny_take (i := 0) (oi := { dst := some 32, op := Op.move (Operand.tmp 0), type := 124, pos := "cache.go:47", after := #[], guard := none }) (v := ?_) rfl (by kernel_rfl) (by kernel_rfl) (by kernel_rfl) (fun _ _ _ h => h) (Or.inl ⟨by rfl, ?_⟩) ?_
    rotate_left 1
    · intro W
      go_simp
      try with_reducible rfl
    try simp only [Act.put, List.setIfInBounds_toArray, List.set_cons_zero, List.set_cons_succ]
    refine wpAny_take (i := 1) (oi := { dst := some 33, op := Op.move (Operand.tmp 0), type := 124, pos := "cache.go:47", after := #[], guard := none }) (v := ?_) rfl (by kernel_rfl) (by kernel_rfl) (by kernel_rfl) (fun _ _ _ h => h) (Or.inl ⟨by rfl, ?_⟩) ?_
    rotate_left 1
    · intro W
      go_simp
      try with_reducible rfl
    try simp only [Act.put, List.setIfInBounds_toArray, List.set_cons_zero, List.set_cons_succ]
    refine wpAny_take (i := 2) (oi := { dst := some 34, op := Op.nilCheck (Operand.tmp 33), type := 0, pos := "cache.go:47", after := #[{ on := 1, ground := Ground.data }], guard := none }) (v := ?_) rfl (by kernel_rfl) (by kernel_rfl) (by kernel_rfl) (fun _ _ _ h => h) (Or.inl ⟨by rfl, ?_⟩) ?_
    rotate_left 1
    · intro W
      go_simp
      try with_reducible rfl
    try simp only [Act.put, List.setIfInBounds_toArray, List.set_cons_zero, List.set_cons_succ]
    refine wpAny_take (i := 3) (oi := { dst := some 35, op := Op.fieldAddr 65 (Operand.tmp 34) 1, type := 0, pos := "cache.go:47", after := #[{ on := 2, ground := Ground.data }], guard := none }) (v := ?_) rfl (by kernel_rfl) (by kernel_rfl) (by kernel_rfl) (fun _ _ _ h => h) (Or.inl ⟨by rfl, ?_⟩) ?_
    rotate_left 1
    · intro W
      go_simp
      try with_reducible rfl
    try simp only [Act.put, List.setIfInBounds_toArray, List.set_cons_zero, List.set_cons_succ]
    refine wpAny_ready (rs := [4, 5]) (by kernel_rfl) (by simp) ?_
    refine AllReady.cons (o := { dst := some 36, op := Op.load 63 (Operand.tmp 35), type := 63, pos := "cache.go:47", after := #[{ on := 3, ground := Ground.data }], guard := none }) rfl (fun K hK => ?_) ?_
    · go_simp
      refine hK _ _ ?_
      clear hK K
      try simp only [Act.put, List.setIfInBounds_toArray, List.set_cons_zero, List.set_cons_succ]
      refine wpAny_ready (rs := [5]) (by kernel_rfl) (by simp) ?_
      refine AllReady.cons (o := { dst := some 37, op := Op.load 61 (Operand.tmp 5), type := 61, pos := "cache.go:47", after := #[], guard := none }) rfl (fun K hK => ?_) ?_
      · refine step_load_mid rfl 61 (.tmp 5) rfl w.heap.size 0 rfl (bv x) _ HRn.out Tryd.underlying61 rfl (by rw [bv_len, HX.out]; exact infoBlk) (hK _ _ ?_)
        clear hK K
        try simp only [Act.put, List.setIfInBounds_toArray, List.set_cons_zero, List.set_cons_succ]
        refine wpAny_ready (rs := [6]) (by kernel_rfl) (by simp) ?_
        refine AllReady.cons (o := { dst := some 38, op := Op.buildSlice 63 1 #[(0, Operand.tmp 37)], type := 63, pos := "cache.go:47", after := #[{ on := 5, ground := Ground.data }], guard := none }) rfl (fun K hK => ?_) ?_
        · refine step_build1 rfl 63 61 (.tmp 37) rfl (ba x) rfl (by rw [ba_size, HX.out]) Tryd.underlying63 infoBlkZ (hK _ _ ?_)
          clear hK K
          try simp only [Act.put, List.setIfInBounds_toArray, List.set_cons_zero, List.set_cons_succ]
          refine wpAny_ready (rs := [7]) (by kernel_rfl) (by simp) ?_
          refine AllReady.cons (o := { dst := some 39, op := Op.call { callee := Callee.builtin Builtin.append, args := #[Operand.tmp 36, Operand.tmp 38], argTypes := #[63, 63] }, type := 63, pos := "cache.go:47", after := #[{ on := 4, ground := Ground.data }, { on := 6, ground := Ground.data }], guard := none }) rfl (fun K hK => ?_) ?_
          · obtain ⟨i0, z0, hi0, hz0, hs0, hb0, hzs0⟩ := blk_parts infoBlkB
            refine step_append_own_at rfl (.tmp 36) (.tmp 38) 63 rfl 0 61 i0 z0 64 64 Tryd.underlying63 hi0 hz0 hs0 hb0 hzs0 (by decide) vb m.cache.length (bv (flat m.cache)) rfl HBd.out ⟨W2.heap.size, 0, none⟩ 1 1 (bv x) rfl (by rw [bv_len, HX.out]) HNw.out (bv_one x) (by have := HLen.out; simp [maxLen]; omega) (by have := HLen.out; omega) (Nat.zero_le _) ?_
            intro v3 w3 ho3 hg3 _ hat3
            obtain ⟨g3, cap3, rfl⟩ := row_form ho3 (by omega)
            have hd3 : w3.heap[d]? = some (.cells (devCells m (.slice (some ⟨g1, 0, none⟩) (m.cache.length + 1) cap1) vb vl) 69 (0, 0)) := (hg3.block d (by simp; omega) (fun e => own_ne_box HB2.out HD2.out (by decide) e.symm)).trans HDd.out
            have c1' : w3.cell? ⟨d, 1, none⟩ = some vb := by simp [World.cell?, hd3, devCells]
            have f1' : w3.frozen? ⟨d, 1, none⟩ = false := by simp [World.frozen?, hd3]
            have HO3 := Lib.hid ho3; have HG3 := Lib.hid hg3; have HA3 := Lib.hid hat3; have HD3 := Lib.hid hd3
            clear ho3 hg3 hat3 hd3 hi0 hz0 hs0 hb0 hzs0
            refine hK _ _ ?_
            clear hK K
            try simp only [Act.put, List.setIfInBounds_toArray, List.set_cons_zero, List.set_cons_succ]
            refine wpAny_ready (rs := [8]) (by kernel_rfl) (by simp) ?_
            refine AllReady.cons (o := { dst := some 40, op := Op.nilCheck (Operand.tmp 32), type := 0, pos := "cache.go:47", after := #[{ on := 0, ground := Ground.data }, { on := 0, ground := Ground.phase }, { on := 1, ground := Ground.phase }, { on := 2, ground := Ground.phase }, { on := 3, ground := Ground.phase }, { on := 4, ground := Ground.phase }, { on := 5, ground := Ground.phase }, { on := 6, ground := Ground.phase }, { on := 7, ground := Ground.phase }], guard := none }) rfl (fun K hK => ?_) ?_
            · go_simp
              refine hK _ _ ?_
              clear hK K
              try simp only [Act.put, List.setIfInBounds_toArray, List.set_cons_zero, List.set_cons_succ]
              refine wpAny_ready (rs := [9]) (by kernel_rfl) (by simp) ?_
              refine AllReady.cons (o := { dst := some 41, op := Op.fieldAddr 65 (Operand.tmp 40) 1, type := 0, pos := "cache.go:47", after := #[{ on := 8, ground := Ground.data }, { on := 0, ground := Ground.phase }, { on := 1, ground := Ground.phase }, { on := 2, ground := Ground.phase }, { on := 3, ground := Ground.phase }, { on := 4, ground := Ground.phase }, { on := 5, ground := Ground.phase }, { on := 6, ground := Ground.phase }, { on := 7, ground := Ground.phase }], guard := none }) rfl (fun K hK => ?_) ?_
              · go_simp
                refine hK _ _ ?_
                clear hK K
                try simp only [Act.put, List.setIfInBounds_toArray, List.set_cons_zero, List.set_cons_succ]
                refine wpAny_ready (rs := [10]) (by kernel_rfl) (by simp) ?_
                refine AllReady.cons (o := { dst := none, op := Op.store 63 (Operand.tmp 41) (Operand.tmp 39), type := 0, pos := "cache.go:47", after := #[{ on := 9, ground := Ground.data }, { on := 7, ground := Ground.data }, { on := 7, ground := Ground.chain }, { on := 0, ground := Ground.phase }, { on := 1, ground := Ground.phase }, { on := 2, ground := Ground.phase }, { on := 3, ground := Ground.phase }, { on := 4, ground := Ground.phase }, { on := 5, ground := Ground.phase }, { on := 6, ground := Ground.phase }, { on := 7, ground := Ground.phase }], guard := none }) rfl (fun K hK => ?_) ?_
                · go_simp
                  refine hK _ _ ?_
                  clear hK K
                  try simp only [Act.put, List.setIfInBounds_toArray, List.set_cons_zero, List.set_cons_succ]
                  refine wpAny_done (by kernel_rfl) ?_ _
                  refine bodyPost_end (results_none rfl _ _ _) rfl ?_
                  obtain ⟨hA, hB⟩ := put_end HL.out HPo.out HO2.out HL2.out HB2.out HD2.out HT2.out (fun g hg => HZw.out g hg) HO3.out HG3.out HA3.out HD3.out
                  exact ⟨rfl, hA, hB⟩
                exact AllReady.nil
              exact AllReady.nil
            exact AllReady.nil
          exact AllReady.nil
        exact AllReady.nil
      exact AllReady.nil
    refine AllReady.cons (o := { dst := some 37, op := Op.load 61 (Operand.tmp 5), type := 61, pos := "cache.go:47", after := #[], guard := none }) rfl (fun K hK => ?_) ?_
    · refine step_load_mid rfl 61 (.tmp 5) rfl w.heap.size 0 rfl (bv x) _ HRn.out Tryd.underlying61 rfl (by rw [bv_len, HX.out]; exact infoBlk) (hK _ _ ?_)
      clear hK K
      try simp only [Act.put, List.setIfInBounds_toArray, List.set_cons_zero, List.set_cons_succ]
      refine wpAny_ready (rs := [4, 6]) (by kernel_rfl) (by simp) ?_
      refine AllReady.cons (o := { dst := some 36, op := Op.load 63 (Operand.tmp 35), type := 63, pos := "cache.go:47", after := #[{ on := 3, ground := Ground.data }], guard := none }) rfl (fun K hK => ?_) ?_
      · go_simp
        refine hK _ _ ?_
        clear hK K
        try simp only [Act.put, List.setIfInBounds_toArray, List.set_cons_zero, List.set_cons_succ]
        refine wpAny_ready (rs := [6]) (by kernel_rfl) (by simp) ?_
        refine AllReady.cons (o := { dst := some 38, op := Op.buildSlice 63 1 #[(0, Operand.tmp 37)], type := 63, pos := "cache.go:47", after := #[{ on := 5, ground := Ground.data }], guard := none }) rfl (fun K hK => ?_) ?_
        · refine step_build1 rfl 63 61 (.tmp 37) rfl (ba x) rfl (by rw [ba_size, HX.out]) Tryd.underlying63 infoBlkZ (hK _ _ ?_)
          clear hK K
          try simp only [Act.put, List.setIfInBounds_toArray, List.set_cons_zero, List.set_cons_succ]
          refine wpAny_ready (rs := [7]) (by kernel_rfl) (by simp) ?_
          refine AllReady.cons (o := { dst := some 39, op := Op.call { callee := Callee.builtin Builtin.append, args := #[Operand.tmp 36, Operand.tmp 38], argTypes := #[63, 63] }, type := 63, pos := "cache.go:47", after := #[{ on := 4, ground := Ground.data }, { on := 6, ground := Ground.data }], guard := none }) rfl (fun K hK => ?_) ?_
          · obtain ⟨i0, z0, hi0, hz0, hs0, hb0, hzs0⟩ := blk_parts infoBlkB
            refine step_append_own_at rfl (.tmp 36) (.tmp 38) 63 rfl 0 61 i0 z0 64 64 Tryd.underlying63 hi0 hz0 hs0 hb0 hzs0 (by decide) vb m.cache.length (bv (flat m.cache)) rfl HBd.out ⟨W2.heap.size, 0, none⟩ 1 1 (bv x) rfl (by rw [bv_len, HX.out]) HNw.out (bv_one x) (by have := HLen.out; simp [maxLen]; omega) (by have := HLen.out; omega) (Nat.zero_le _) ?_
            intro v3 w3 ho3 hg3 _ hat3
            obtain ⟨g3, cap3, rfl⟩ := row_form ho3 (by omega)
            have hd3 : w3.heap[d]? = some (.cells (devCells m (.slice (some ⟨g1, 0, none⟩) (m.cache.length + 1) cap1) vb vl) 69 (0, 0)) := (hg3.block d (by simp; omega) (fun e => own_ne_box HB2.out HD2.out (by decide) e.symm)).trans HDd.out
            have c1' : w3.cell? ⟨d, 1, none⟩ = some vb := by simp [World.cell?, hd3, devCells]
            have f1' : w3.frozen? ⟨d, 1, none⟩ = false := by simp [World.frozen?, hd3]
            have HO3 := Lib.hid ho3; have HG3 := Lib.hid hg3; have HA3 := Lib.hid hat3; have HD3 := Lib.hid hd3
            clear ho3 hg3 hat3 hd3 hi0 hz0 hs0 hb0 hzs0
            refine hK _ _ ?_
            clear hK K
            try simp only [Act.put, List.setIfInBounds_toArray, List.set_cons_zero, List.set_cons_succ]
            refine wpAny_ready (rs := [8]) (by kernel_rfl) (by simp) ?_
            refine AllReady.cons (o := { dst := some 40, op := Op.nilCheck (Operand.tmp 32), type := 0, pos := "cache.go:47", after := #[{ on := 0, ground := Ground.data }, { on := 0, ground := Ground.phase }, { on := 1, ground := Ground.phase }, { on := 2, ground := Ground.phase }, { on := 3, ground := Ground.phase }, { on := 4, ground := Ground.phase }, { on := 5, ground := Ground.phase }, { on := 6, ground := Ground.phase }, { on := 7, ground := Ground.phase }], guard := none }) rfl (fun K hK => ?_) ?_
            · go_simp
              refine hK _ _ ?_
              clear hK K
              try simp only [Act.put, List.setIfInBounds_toArray, List.set_cons_zero, List.set_cons_succ]
              refine wpAny_ready (rs := [9]) (by kernel_rfl) (by simp) ?_
              refine AllReady.cons (o := { dst := some 41, op := Op.fieldAddr 65 (Operand.tmp 40) 1, type := 0, pos := "cache.go:47", after := #[{ on := 8, ground := Ground.data }, { on := 0, ground := Ground.phase }, { on := 1, ground := Ground.phase }, { on := 2, ground := Ground.phase }, { on := 3, ground := Ground.phase }, { on := 4, ground := Ground.phase }, { on := 5, ground := Ground.phase }, { on := 6, ground := Ground.phase }, { on := 7, ground := Ground.phase }], guard := none }) rfl (fun K hK => ?_) ?_
              · go_simp
                refine hK _ _ ?_
                clear hK K
                try simp only [Act.put, List.setIfInBounds_toArray, List.set_cons_zero, List.set_cons_succ]
                refine wpAny_ready (rs := [10]) (by kernel_rfl) (by simp) ?_
                refine AllReady.cons (o := { dst := none, op := Op.store 63 (Operand.tmp 41) (Operand.tmp 39), type := 0, pos := "cache.go:47", after := #[{ on := 9, ground := Ground.data }, { on := 7, ground := Ground.data }, { on := 7, ground := Ground.chain }, { on := 0, ground := Ground.phase }, { on := 1, ground := Ground.phase }, { on := 2, ground := Ground.phase }, { on := 3, ground := Ground.phase }, { on := 4, ground := Ground.phase }, { on := 5, ground := Ground.phase }, { on := 6, ground := Ground.phase }, { on := 7, ground := Ground.phase }], guard := none }) rfl (fun K hK => ?_) ?_
                · go_simp
                  refine hK _ _ ?_
                  clear hK K
                  try simp only [Act.put, List.setIfInBounds_toArray, List.set_cons_zero, List.set_cons_succ]
                  refine wpAny_done (by kernel_rfl) ?_ _
                  refine bodyPost_end (results_none rfl _ _ _) rfl ?_
                  obtain ⟨hA, hB⟩ := put_end HL.out HPo.out HO2.out HL2.out HB2.out HD2.out HT2.out (fun g hg => HZw.out g hg) HO3.out HG3.out HA3.out HD3.out
                  exact ⟨rfl, hA, hB⟩
                exact AllReady.nil
              exact AllReady.nil
            exact AllReady.nil
          exact AllReady.nil
        exact AllReady.nil
      refine AllReady.cons (o := { dst := some 38, op := Op.buildSlice 63 1 #[(0, Operand.tmp 37)], type := 63, pos := "cache.go:47", after := #[{ on := 5, ground := Ground.data }], guard := none }) rfl (fun K hK => ?_) ?_
      · refine step_build1 rfl 63 61 (.tmp 37) rfl (ba x) rfl (by rw [ba_size, HX.out]) Tryd.underlying63 infoBlkZ (hK _ _ ?_)
        clear hK K
        try simp only [Act.put, List.setIfInBounds_toArray, List.set_cons_zero, List.set_cons_succ]
        refine wpAny_ready (rs := [4]) (by kernel_rfl) (by simp) ?_
        refine AllReady.cons (o := { dst := some 36, op := Op.load 63 (Operand.tmp 35), type := 63, pos := "cache.go:47", after := #[{ on := 3, ground := Ground.data }], guard := none }) rfl (fun K hK => ?_) ?_
        · go_simp
          refine hK _ _ ?_
          clear hK K
          try simp only [Act.put, List.setIfInBounds_toArray, List.set_cons_zero, List.set_cons_succ]
          refine wpAny_ready (rs := [7]) (by kernel_rfl) (by simp) ?_
          refine AllReady.cons (o := { dst := some 39, op := Op.call { callee := Callee.builtin Builtin.append, args := #[Operand.tmp 36, Operand.tmp 38], argTypes := #[63, 63] }, type := 63, pos := "cache.go:47", after := #[{ on := 4, ground := Ground.data }, { on := 6, ground := Ground.data }], guard := none }) rfl (fun K hK => ?_) ?_
          · obtain ⟨i0, z0, hi0, hz0, hs0, hb0, hzs0⟩ := blk_parts infoBlkB
            refine step_append_own_at rfl (.tmp 36) (.tmp 38) 63 rfl 0 61 i0 z0 64 64 Tryd.underlying63 hi0 hz0 hs0 hb0 hzs0 (by decide) vb m.cache.length (bv (flat m.cache)) rfl HBd.out ⟨W2.heap.size, 0, none⟩ 1 1 (bv x) rfl (by rw [bv_len, HX.out]) HNw.out (bv_one x) (by have := HLen.out; simp [maxLen]; omega) (by have := HLen.out; omega) (Nat.zero_le _) ?_
            intro v3 w3 ho3 hg3 _ hat3
            obtain ⟨g3, cap3, rfl⟩ := row_form ho3 (by omega)
            have hd3 : w3.heap[d]? = some (.cells (devCells m (.slice (some ⟨g1, 0, none⟩) (m.cache.length + 1) cap1) vb vl) 69 (0, 0)) := (hg3.block d (by simp; omega) (fun e => own_ne_box HB2.out HD2.out (by decide) e.symm)).trans HDd.out
            have c1' : w3.cell? ⟨d, 1, none⟩ = some vb := by simp [World.cell?, hd3, devCells]
            have f1' : w3.frozen? ⟨d, 1, none⟩ = false := by simp [World.frozen?, hd3]
            have HO3 := Lib.hid ho3; have HG3 := Lib.hid hg3; have HA3 := Lib.hid hat3; have HD3 := Lib.hid hd3
            clear ho3 hg3 hat3 hd3 hi0 hz0 hs0 hb0 hzs0
            refine hK _ _ ?_
            clear hK K
            try simp only [Act.put, List.setIfInBounds_toArray, List.set_cons_zero, List.set_cons_succ]
            refine wpAny_ready (rs := [8]) (by kernel_rfl) (by simp) ?_
            refine AllReady.cons (o := { dst := some 40, op := Op.nilCheck (Operand.tmp 32), type := 0, pos := "cache.go:47", after := #[{ on := 0, ground := Ground.data }, { on := 0, ground := Ground.phase }, { on := 1, ground := Ground.phase }, { on := 2, ground := Ground.phase }, { on := 3, ground := Ground.phase }, { on := 4, ground := Ground.phase }, { on := 5, ground := Ground.phase }, { on := 6, ground := Ground.phase }, { on := 7, ground := Ground.phase }], guard := none }) rfl (fun K hK => ?_) ?_
            · go_simp
              refine hK _ _ ?_
              clear hK K
              try simp only [Act.put, List.setIfInBounds_toArray, List.set_cons_zero, List.set_cons_succ]
              refine wpAny_ready (rs := [9]) (by kernel_rfl) (by simp) ?_
              refine AllReady.cons (o := { dst := some 41, op := Op.fieldAddr 65 (Operand.tmp 40) 1, type := 0, pos := "cache.go:47", after := #[{ on := 8, ground := Ground.data }, { on := 0, ground := Ground.phase }, { on := 1, ground := Ground.phase }, { on := 2, ground := Ground.phase }, { on := 3, ground := Ground.phase }, { on := 4, ground := Ground.phase }, { on := 5, ground := Ground.phase }, { on := 6, ground := Ground.phase }, { on := 7, ground := Ground.phase }], guard := none }) rfl (fun K hK => ?_) ?_
              · go_simp
                refine hK _ _ ?_
                clear hK K
                try simp only [Act.put, List.setIfInBounds_toArray, List.set_cons_zero, List.set_cons_succ]
                refine wpAny_ready (rs := [10]) (by kernel_rfl) (by simp) ?_
                refine AllReady.cons (o := { dst := none, op := Op.store 63 (Operand.tmp 41) (Operand.tmp 39), type := 0, pos := "cache.go:47", after := #[{ on := 9, ground := Ground.data }, { on := 7, ground := Ground.data }, { on := 7, ground := Ground.chain }, { on := 0, ground := Ground.phase }, { on := 1, ground := Ground.phase }, { on := 2, ground := Ground.phase }, { on := 3, ground := Ground.phase }, { on := 4, ground := Ground.phase }, { on := 5, ground := Ground.phase }, { on := 6, ground := Ground.phase }, { on := 7, ground := Ground.phase }], guard := none }) rfl (fun K hK => ?_) ?_
                · go_simp
                  refine hK _ _ ?_
                  clear hK K
                  try simp only [Act.put, List.setIfInBounds_toArray, List.set_cons_zero, List.set_cons_succ]
                  refine wpAny_done (by kernel_rfl) ?_ _
                  refine bodyPost_end (results_none rfl _ _ _) rfl ?_
                  obtain ⟨hA, hB⟩ := put_end HL.out HPo.out HO2.out HL2.out HB2.out HD2.out HT2.out (fun g hg => HZw.out g hg) HO3.out HG3.out HA3.out HD3.out
                  exact ⟨rfl, hA, hB⟩
                exact AllReady.nil
              exact AllReady.nil
            exact AllReady.nil
          exact AllReady.nil
        exact AllReady.nil
      exact AllReady.nil
    exact AllReady.nil

end Go.Proofs.YtkhghkklekjdaaaDoor.sector
