/- The cache: found, put, laid down. -/
import Derived.Test.YtkhghkklekjdaaaDoorRows
import Derived.Test.YtkhghkklekjdaaaDoorSectorDev
namespace Go.Proofs.YtkhghkklekjdaaaDoor.sector
open Go.RowKit
open Go.Proofs.YtkhghkklekjdaaaDoor.kit Go.Proofs.YtkhghkklekjdaaaDoor.own
set_option linter.unusedVariables false

set_option maxRecDepth 100000 in
theorem Index_hit (v : Value) (ns : List Nat) (k j : Nat) (w : World) (hv : SlI w .i64 v ns) (hj : j < ns.length) (hk : ns.getD j 0 = k) (hb : ∀ i, i < j → ns.getD i 0 ≠ k) :
    Calls Tryd.prog 73 #[v, .int .i64 k] w fun e w' => e = .returned (.int .i64 j) ∧ w = w' := by
  obtain ⟨hl, a, cap, rfl, hc⟩ := hv
  obtain ⟨b, off, rfl, hcell⟩ := hc (by omega)
  have HC := Lib.hid hcell; have HB := Lib.hid hb; have HK := Lib.hid hk; have HJ := Lib.hid hj
  clear hc hcell hb hk
  generalize hL : ns.length = L at HC hl hj HJ ⊢
  clear hL
  go_enter Tryd.func73, Tryd.ntmps73
  go_wp2
  go_loop [8] (fun i => ∃ q : Nat, q ≤ j ∧ i = .int .i64 q) (fun i => L - (intOf i).toNat)
  case atStart => exact ⟨0, by omega, rfl⟩
  case round =>
    obtain ⟨q, hq, rfl⟩ := hrel
    have hc := HC.out q (by omega)
    have hqL : q < L := by omega
    have hqI : (q : Int) < L := by omega
    by_cases hqj : q = j
    · subst hqj
      rw [HK.out] at hc
      go_wp2
      go_ret
      exact ⟨rfl, rfl⟩
    · have hne := HB.out q (by omega)
      have hne' : True → ((k : Int) == ((ns.getD q 0 : Nat) : Int)) = false := fun _ => by rw [beq_eq_false_iff_ne]; omega
      generalize ns.getD q 0 = x at hc hne hne'
      clear hne
      have HQ := Lib.hid hqj
      clear hqj
      go_wp2
      go_round
      case rel => exact ⟨q + 1, by have := HQ.out; omega, by go_num⟩
      case measure => simp [intOf]; omega

set_option maxRecDepth 100000 in
theorem Index_miss (v : Value) (ns : List Nat) (k : Nat) (w : World) (hv : SlI w .i64 v ns) (hb : ∀ i, i < ns.length → ns.getD i 0 ≠ k) :
    Calls Tryd.prog 73 #[v, .int .i64 k] w fun e w' => e = .returned (.int .i64 (-1)) ∧ w = w' := by
  obtain ⟨hl, a, cap, rfl, hc⟩ := hv
  have HC := Lib.hid hc; have HB := Lib.hid hb
  clear hc hb
  generalize hL : ns.length = L at HC HB hl ⊢
  clear hL
  go_enter Tryd.func73, Tryd.ntmps73
  go_wp2
  go_loop [8] (fun i => ∃ q : Nat, q ≤ L ∧ i = .int .i64 q) (fun i => L - (intOf i).toNat)
  case atStart => exact ⟨0, by omega, rfl⟩
  case round =>
    obtain ⟨q, hq, rfl⟩ := hrel
    by_cases hqL : q < L
    · obtain ⟨b, off, rfl, hcell⟩ := HC.out (by omega)
      have hc := hcell q hqL
      have hqI : (q : Int) < L := by omega
      have hne := HB.out q hqL
      have hne' : True → ((k : Int) == ((ns.getD q 0 : Nat) : Int)) = false := fun _ => by rw [beq_eq_false_iff_ne]; omega
      generalize ns.getD q 0 = x at hc hne hne'
      clear hne hcell
      go_wp2
      go_round
      case rel => exact ⟨q + 1, by omega, by go_num⟩
      case measure => simp [intOf]; omega
    · have hqI : ¬ (q : Int) < L := by omega
      go_wp2
      go_ret
      exact ⟨rfl, rfl⟩

/-- The bytes of the j-th one in the cache. -/
def nth (c : List (Nat × List Nat)) (j : Nat) : List Nat := (c.getD j (0, [])).2
theorem nth_mem {c : List (Nat × List Nat)} {j : Nat} (h : j < c.length) : (((keys c).getD j 0), nth c j) ∈ c := by
  have : (((keys c).getD j 0), nth c j) = c[j] := by simp [keys, nth, List.getD, h]
  rw [this]
  exact List.getElem_mem h
theorem flat_len {c : List (Nat × List Nat)} (h : ∀ p ∈ c, p.2.length = 64) : (flat c).length = c.length * 64 := by
  induction c with
  | nil => rfl
  | cons p c ih =>
    have h1 := h p (by simp)
    have h2 := ih (fun q hq => h q (by simp [hq]))
    unfold flat at h2 ⊢
    rw [List.flatMap_cons, List.length_append, h1, h2, List.length_cons]; omega
theorem flat_at {c : List (Nat × List Nat)} (h : ∀ p ∈ c, p.2.length = 64) : ∀ (j i : Nat), j < c.length → i < 64 → (flat c)[j * 64 + i]? = (nth c j)[i]? := by
  induction c with
  | nil => intro j i hj; simp at hj
  | cons p c ih =>
    intro j i hj hi
    have h1 := h p (by simp)
    have h2 := ih (fun q hq => h q (by simp [hq]))
    unfold flat at h2 ⊢
    rw [List.flatMap_cons]
    cases j with
    | zero =>
      rw [List.getElem?_append_left (by omega)]
      simp [nth]
    | succ j =>
      rw [List.getElem?_append_right (by omega), h1, show (j + 1) * 64 + i - 64 = j * 64 + i by omega, h2 j i (by simpa using hj) hi]
      simp [nth]

theorem Lies.block_at {w : World} {Z : Nat → Prop} {d : Nat} {m : Dev} {vo vb vl : Value} (h : Lies w Z d m vo vb vl) (ho : m.Ok) {j : Nat} (hj : j < m.cache.length) :
    ∃ g cap, vb = .slice (some ⟨g, 0, none⟩) m.cache.length cap ∧ w.rangeAt g (j * 64) (bv (nth m.cache j)) := by
  rcases h.blocks.2 with ⟨_, h0⟩ | ⟨g, cap, cur, e, _⟩
  · omega
  · refine ⟨g, cap, e, fun i v hv => ?_⟩
    have hb := h.blocks
    have hl : (nth m.cache j).length = 64 := (ho.cache _ (nth_mem hj)).2.1
    have hi : i < 64 := by
      have := (List.getElem?_eq_some_iff.1 hv).1
      rw [bv_len, hl] at this
      exact this
    rw [e] at hb
    rw [hb.cellAt (j * 64 + i) (by omega)]
    unfold bv at hv ⊢
    rw [List.getElem?_map] at hv ⊢
    rw [flat_at (fun p hp => (ho.cache p hp).2.1) j i hj hi]
    exact hv

set_option maxHeartbeats 1000000 in
set_option maxRecDepth 100000 in
theorem find_hit (w : World) (Z : Nat → Prop) (d : Nat) (m : Dev) (h : DevAt w Z d m) (k j : Nat) (hj : j < m.cache.length) (hk : (keys m.cache).getD j 0 = k) (hb : ∀ i, i < j → (keys m.cache).getD i 0 ≠ k) :
    Calls Tryd.prog 65 #[.pointer (some ⟨d, 0, none⟩), .int .i64 k] w fun e w' => e = .returned (.tuple #[.agg (ba (nth m.cache j)), .bool true]) ∧ Below w.heap.size w w' := by
  obtain ⟨ho, vo, vb, vl, hl⟩ := h
  have HL := Lib.hid hl; have HO := Lib.hid ho
  have hx : (nth m.cache j).length = 64 := (ho.cache _ (nth_mem hj)).2.1
  obtain ⟨g, cap, rfl, hr⟩ := hl.block_at ho hj
  have c0 := hl.cell 0; have c1 := hl.cell 1
  simp [devCells] at c0 c1
  have HI := Lib.hid (fun W (hW : OwnI W 0 3 .i64 vo (keys m.cache)) => Index_hit vo (keys m.cache) k j W hW.read (by simpa using hj) hk hb)
  have HX := Lib.hid hx
  have HR := Lib.hid hr
  have hlt := hl.lt
  have hjI : (j : Int) < (m.cache.length : Int) := by omega
  have hj0 : (0 : Int) ≤ (j : Int) := by omega
  have hi : (Tryd.prog.info? 61).map (·.size) = some (bv (nth m.cache j)).length := by rw [bv_len, hx]; exact infoBlk
  have hJ := Lib.hid hj
  clear hl ho hk hb hr hx hj
  generalize m.cache.length = L at c1 hjI hJ
  have HA := Lib.hid ((Below.refl w.heap.size w).alloc (Nat.le_refl _) (.cells (ba zeros64) 61))
  have HOw := Lib.hid (HL.out.order.below HA.out)
  have HR1 := Lib.hid (show (w.alloc (.cells (ba zeros64) 61)).rangeAt g (j * 64) (bv (nth m.cache j)) from fun i v hv => (HA.out.cell (p := ⟨g, _, none⟩) (cell_lt (HR.out i v hv))).trans (HR.out i v hv))
  have HT := Lib.hid (there_of_block (n := 64) (alloc_at w (.cells (bv zeros64).toArray 61)) (by simp [zeros64]))
  have c0' := (HA.out.cell (p := ⟨d, 0, none⟩) hlt).trans c0
  have c1' := (HA.out.cell (p := ⟨d, 1, none⟩) hlt).trans c1
  go_enter Tryd.func65, Tryd.ntmps65
  go_upto_region 1 with fail
  rw [zeros64_eq] at HA HOw HR1 c0' c1'
  rw [show (bv zeros64).toArray = ba zeros64 from rfl, zeros64_eq] at HT
  clear c0 c1
  generalize (w.alloc (.cells _ 61)) = W0 at HA HOw HR1 HT c0' c1' ⊢
  go_wp2_with fail
  refine (HI.out W0 HOw.out).mono ?_
  rintro e w' ⟨rfl, rfl⟩
  go_upto_region 3 with fail
  have hT2 : W0.there w.heap.size 0 (ba (nth m.cache j)).size := by rw [ba_size, HX.out]; exact HT.out
  have hi2 : (Tryd.prog.info? 61).map (·.size) = some (ba (nth m.cache j)).size := by rw [ba_size, HX.out]; exact infoBlk
  go_wp2_with (first
    | refine wpList_load_mid rfl 61 _ rfl g (j * 64) rfl _ _ HR1.out Tryd.underlying61 rfl hi ?_
    | refine wpList_store_mid rfl 61 _ _ rfl w.heap.size 0 (ba (nth m.cache j)) rfl rfl hT2 hi2 (ba_one _) ?_)
  refine bodyPost_ret (ret_cell_tmp rfl rfl (World.rangeAt_setCells_same _ _ _ _ (by rw [ba_list, ← ba_size] at *; exact hT2)) Tryd.underlying61 rfl (by rw [ba_list]; exact hi)) rfl ?_
  rw [ba_list]
  exact ⟨rfl, Below.setCells HA.out (Nat.le_refl _) _ _⟩

set_option maxHeartbeats 1000000 in
set_option maxRecDepth 100000 in
theorem find_miss (w : World) (Z : Nat → Prop) (d : Nat) (m : Dev) (h : DevAt w Z d m) (k : Nat) (hb : ∀ i, i < m.cache.length → (keys m.cache).getD i 0 ≠ k) :
    Calls Tryd.prog 65 #[.pointer (some ⟨d, 0, none⟩), .int .i64 k] w fun e w' => e = .returned (.tuple #[.agg (ba zeros64), .bool false]) ∧ Below w.heap.size w w' := by
  obtain ⟨ho, vo, vb, vl, hl⟩ := h
  have HL := Lib.hid hl
  have c0 := hl.cell 0
  simp [devCells] at c0
  have HI := Lib.hid (fun W (hW : OwnI W 0 3 .i64 vo (keys m.cache)) => Index_miss vo (keys m.cache) k W hW.read (by simpa using hb))
  have hlt := hl.lt
  clear hl ho hb
  have HA := Lib.hid ((Below.refl w.heap.size w).alloc (Nat.le_refl _) (.cells (ba zeros64) 61))
  have HOw := Lib.hid (HL.out.order.below HA.out)
  have HT := Lib.hid (there_of_block (n := 64) (alloc_at w (.cells (bv zeros64).toArray 61)) (by simp [zeros64]))
  have c0' := (HA.out.cell (p := ⟨d, 0, none⟩) hlt).trans c0
  go_enter Tryd.func65, Tryd.ntmps65
  go_upto_region 1 with fail
  rw [zeros64_eq] at HA HOw c0'
  rw [show (bv zeros64).toArray = ba zeros64 from rfl, zeros64_eq] at HT
  clear c0
  generalize (w.alloc (.cells _ 61)) = W0 at HA HOw HT c0' ⊢
  go_wp2_with fail
  refine (HI.out W0 HOw.out).mono ?_
  rintro e w' ⟨rfl, rfl⟩
  go_upto_region 4 with fail
  have hT2 : W0.there w.heap.size 0 (ba zeros64).size := by rw [ba_size]; exact HT.out
  have hi2 : (Tryd.prog.info? 61).map (·.size) = some (ba zeros64).size := by rw [ba_size]; exact infoBlk
  go_wp2_with (refine wpList_store_mid rfl 61 _ _ rfl w.heap.size 0 (ba zeros64) rfl rfl hT2 hi2 (ba_one _) ?_)
  refine bodyPost_ret (ret_cell_tmp rfl rfl (World.rangeAt_setCells_same _ _ _ _ (by rw [ba_list, bv_len]; rw [ba_size] at hT2; exact hT2)) Tryd.underlying61 rfl (by rw [ba_list, bv_len, ← ba_size]; exact hi2)) rfl ?_
  rw [ba_list]
  exact ⟨rfl, Below.setCells HA.out (Nat.le_refl _) _ _⟩

theorem wpStill_load_mid {P : Program} {ops : Array Oper} {w : World} {Q : Act → Prop} {rest : List Oper} {op : Oper} {a : Act} (hgd : op.guard = none) (ty : TypeId) (x : Operand) (ho : op.op = .load ty x)
    (b o : Nat) (hx : a.eval x = .pointer (some ⟨b, o, none⟩)) (cs : List Value) (d : TypeDesc) (hc : w.rangeAt b o cs)
    (hu : P.underlying ty = some d) (hd : d.isRow = true) (hi : (P.info? ty).map (·.size) = some cs.length)
    (h : wpStill P ops w Q rest (a.put op.dst (.agg cs.toArray))) : wpStill P ops w Q (op :: rest) a := by
  refine wpStill_step fun K hK => ?_
  have hw : Region.wanted op (yielded ops a.tmps) = true := by simp [Region.wanted, hgd]
  have hr : (execOp a.eval op).run P w = .ok (.value (.agg cs.toArray)) w := by
    unfold execOp
    simp only [ho, hx, Instr.loadAt, Instr.sureAddr, Sem.run_bind, Sem.run_pure, Result.andThen_ok, run_loadVar_mid w b o ty cs d hc hu hd hi]
  unfold Oper.still
  rw [hr]
  simp only [Oper.stillUpon_value]
  first
    | exact hK _ h
    | (rw [if_pos hw]; exact hK _ h)

theorem splice_cons {α : Type} (xs : List α) (o : Nat) (v : α) (vs : List α) (h : o < xs.length) : splice (xs.set o v) (o + 1) vs = splice xs o (v :: vs) := by
  simp only [splice, List.length_cons]
  rw [List.take_succ_eq_append_getElem (by simpa using h)]
  simp only [List.getElem_set_self, List.append_assoc, List.cons_append, List.nil_append]
  rw [List.take_set_of_le (Nat.le_refl _), List.drop_set_of_lt (by omega), show o + 1 + vs.length = o + (vs.length + 1) by omega]
/-- Cells of a row of the call's own are written. -/
theorem own_setCells {B e size g n cap : Nat} : ∀ (vs : List Value) (o : Nat) (w : World) (xs : List Value), w.ownsRow B e size (.slice (some ⟨g, 0, none⟩) n cap) n xs → o + vs.length ≤ n * size →
    (w.setCells g o vs).ownsRow B e size (.slice (some ⟨g, 0, none⟩) n cap) n (splice xs o vs) ∧ w.grownBy (w.setCells g o vs) (some g)
  | [], o, w, xs, h, hl => ⟨by simpa [splice, World.setCells] using h, ⟨rfl, rfl, rfl, Nat.le_refl _, fun _ _ _ => rfl⟩⟩
  | v :: vs, o, w, xs, h, hl => by
    simp only [List.length_cons] at hl
    obtain ⟨h1, h2⟩ := World.ownsRow.stored h o v
    obtain ⟨h3, h4⟩ := own_setCells vs (o + 1) _ _ h1 (by omega)
    rw [splice_cons xs o v vs (by rw [h.1]; omega)] at h3
    exact ⟨h3, ⟨h4.os.trans h2.os, h4.tape.trans h2.tape, h4.output.trans h2.output, Nat.le_trans h2.size h4.size, fun k hk hne => (h4.block k (Nat.lt_of_lt_of_le hk h2.size) hne).trans (h2.block k hk hne)⟩⟩
theorem bv_splice (l : List Nat) (o : Nat) (x : List Nat) : splice (bv l) o (bv x) = bv (splice l o x) := by
  simp [splice, bv_app, bv_take, bv_drop]
theorem flat_set {c : List (Nat × List Nat)} (h : ∀ p ∈ c, p.2.length = 64) : ∀ (j : Nat) (p : Nat × List Nat), p.2.length = 64 → j < c.length → splice (flat c) (j * 64) p.2 = flat (c.set j p) := by
  induction c with
  | nil => intro j p _ hj; simp at hj
  | cons q c ih =>
    intro j p hp hj
    have h1 := h q (by simp)
    have h2 := ih (fun q hq => h q (by simp [hq]))
    unfold flat at h2 ⊢
    cases j with
    | zero =>
      simp only [splice, Nat.zero_mul, List.take_zero, List.nil_append, List.set_cons_zero, List.flatMap_cons, hp, Nat.zero_add]
      rw [List.drop_append_of_le_length (by omega), List.drop_of_length_le (by omega), List.nil_append]
    | succ j =>
      have h3 := h2 j p hp (by simpa using hj)
      rw [List.set_cons_succ, List.flatMap_cons, List.flatMap_cons, ← h3]
      simp only [splice, hp]
      rw [show (j + 1) * 64 = q.2.length + j * 64 by omega, List.take_length_add_append, Nat.add_assoc, List.drop_length_add_append, List.append_assoc]

theorem own_there {w : World} {B e size g n cap : Nat} {xs : List Value} (h : w.ownsRow B e size (.slice (some ⟨g, 0, none⟩) n cap) n xs) (o s : Nat) (hs : o + s ≤ n * size) : w.there g o s := fun j hj => by
  refine ⟨?_, h.frozenAt _⟩
  rw [h.cellAt (o + j) (by omega)]
  have := h.1
  simp
  omega

/-- The rows of the cache are turned, nothing else of the device's. -/
theorem Lies.grown {w w' : World} {Z : Nat → Prop} {d : Nat} {m : Dev} {vo vb vl : Value} (h : Lies w Z d m vo vb vl) {g : Nat} (hg : vb.ownBlock = some g) (hw : w.grownBy w' (some g)) (c : List (Nat × List Nat))
    (hk : keys c = keys m.cache) (hb : w'.ownsRow 0 61 64 vb c.length (bv (flat c))) : Lies w' Z d { m with cache := c } vo vb vl := by
  have n1 := own_ne h.blocks h.order (by decide) hg
  have n2 := own_ne_box h.blocks h.box (by decide)
  refine ⟨(hw.block d h.lt (fun e => n2 (hg.trans e.symm))).trans h.box, ?_, hb, own_stays h.laid (fun q hq => hw.block q (h.laid.lt q hq).2 (fun e => ?_)), h.apart, h.zd, h.zo, h.zb, h.zl, fun q hq => Nat.lt_of_lt_of_le (h.zlt q hq) hw.size⟩
  · show OwnI w' 0 3 .i64 vo (keys c)
    rw [hk]
    exact own_stays h.order (fun q hq => hw.block q (h.order.lt q hq).2 (fun e => by cases e; exact n1 hq))
  · cases e
    exact h.apart _ hg hq
theorem Turn.drew (Z : Nat → Prop) (w : World) : Turn Z w w.drew := ⟨rfl, rfl, rfl, Nat.le_refl _, fun _ _ _ => rfl⟩
theorem turn_grown {Z : Nat → Prop} {w w' : World} {g : Nat} (h : w.grownBy w' (some g)) (hz : Z g) : Turn Z w w' :=
  ⟨h.os, h.tape, h.output, h.size, fun k hk hn => h.block k hk (fun e => by cases e; exact hn hz)⟩

theorem keys_set (c : List (Nat × List Nat)) (j k : Nat) (x : List Nat) (hk : (keys c).getD j 0 = k) : keys (c.set j (k, x)) = keys c := by
  unfold keys at hk ⊢
  rw [List.map_set]
  apply List.ext_getElem?
  intro i
  rw [List.getElem?_set]
  by_cases e : j = i
  · subst e
    by_cases hj : j < c.length
    · simp [hj]
      simp [List.getD, hj] at hk
      exact hk.symm
    · simp [hj]
  · simp [e]

/-- What was put in the place of another. -/
def putAt (m : Dev) (j k : Nat) (x : List Nat) : Dev := { m with cache := m.cache.set j (k, x) }
theorem putAt_ok {m : Dev} (h : m.Ok) {j k : Nat} {x : List Nat} (hk : (keys m.cache).getD j 0 = k) (hx : x.length = 64) (h8 : ∀ y ∈ x, y < 256) (hkn : k < m.n) : (putAt m j k x).Ok :=
  ⟨h.n, h.laid, h.laidLt, fun p hp => by
    rcases List.mem_or_eq_of_mem_set hp with h1 | h1
    · exact h.cache p h1
    · subst h1; exact ⟨hkn, hx, h8⟩, by
    show (keys (m.cache.set j (k, x))).Nodup
    rw [keys_set _ _ _ _ hk]; exact h.once, h.cut, h.ws, h.fs⟩

set_option maxHeartbeats 1000000 in
set_option maxRecDepth 100000 in
theorem put_hit (w : World) (Z : Nat → Prop) (d : Nat) (m : Dev) (h : DevAt w Z d m) (k j : Nat) (x : List Nat) (hx : x.length = 64) (h8 : ∀ y ∈ x, y < 256) (hkn : k < m.n)
    (hj : j < m.cache.length) (hk : (keys m.cache).getD j 0 = k) (hb : ∀ i, i < j → (keys m.cache).getD i 0 ≠ k) :
    Calls Tryd.prog 70 #[.pointer (some ⟨d, 0, none⟩), .int .i64 k, .agg (ba x)] w (Does0 w Z d (putAt m j k x) (.returned (.tuple #[]))) := by
  obtain ⟨ho, vo, vb, vl, hl⟩ := h
  have HL := Lib.hid hl; have HO := Lib.hid ho
  obtain ⟨g, cap, rfl, hr⟩ := hl.block_at ho hj
  have c0 := hl.cell 0; have c1 := hl.cell 1
  simp [devCells] at c0 c1
  have HI := Lib.hid (fun W (hW : OwnI W 0 3 .i64 vo (keys m.cache)) => Index_hit vo (keys m.cache) k j W hW.read (by simpa using hj) hk hb)
  have HX := Lib.hid hx; have HX8 := Lib.hid h8; have HK := Lib.hid hk; have HKn := Lib.hid hkn
  have hlt := hl.lt
  have hjI : (j : Int) < (m.cache.length : Int) := by omega
  have hj0 : (0 : Int) ≤ (j : Int) := by omega
  have hJ := Lib.hid hj
  clear hl ho hk hb hr hx hj h8 hkn
  have HA := Lib.hid ((Below.refl w.heap.size w).alloc (Nat.le_refl _) (.cells (ba x) 61))
  have HLa := Lib.hid (HL.out.stays (fun q hq => HA.out.block q (HL.out.zlt q hq)) HA.out.size)
  have HBx := Lib.hid (alloc_at w (.cells (ba x) 61))
  have c0' := (HA.out.cell (p := ⟨d, 0, none⟩) hlt).trans c0
  have c1' := (HA.out.cell (p := ⟨d, 1, none⟩) hlt).trans c1
  go_enter Tryd.func70, Tryd.ntmps70
  go_upto_region 1 with fail
  clear c0 c1
  generalize (w.alloc (.cells _ 61)) = W0 at HA HLa HBx c0' c1' ⊢
  go_wp2_with fail
  refine (HI.out W0 HLa.out.order).mono ?_
  rintro e w' ⟨rfl, rfl⟩
  go_upto_region 3 with fail
  go_still_tail 7, (by kernel_rfl)
  refine wpStill_load_mid rfl 61 _ rfl w.heap.size 0 rfl (bv x) _ (range_of_block (w := W0.drew) HBx.out) Tryd.underlying61 rfl (by rw [bv_len, HX.out]; exact infoBlk) ?_
  repeat still_step
  refine wpStill_nil ?_
  change wpList _ _ _ _ _ W0.drew
  have hB := HLa.out.blocks
  have hjl : (j + 1) * 64 ≤ m.cache.length * 64 := Nat.mul_le_mul_right _ hJ.out
  have hT : W0.drew.there g (j * 64) (ba x).size := by
    rw [ba_size]
    exact own_there (w := W0.drew) hB _ _ (by have := HX.out; omega)
  refine wpList_store_mid rfl 61 _ _ rfl g (j * 64) (ba x) rfl rfl hT (by rw [ba_size, HX.out]; exact infoBlk) (ba_one _) ?_
  obtain ⟨h1, h2⟩ := own_setCells (bv x) (j * 64) W0.drew _ hB (by rw [bv_len]; have := HX.out; omega)
  rw [bv_splice, flat_set (fun p hp => (HO.out.cache p hp).2.1) j (k, x) HX.out hJ.out] at h1
  have hlen : (m.cache.set j (k, x)).length = m.cache.length := List.length_set ..
  rw [← ba_list] at h1 h2
  have HP : Hid (Lies (W0.drew.setCells g (j * 64) (ba x).toList) Z d (putAt m j k x) vo (.slice (some ⟨g, 0, none⟩) m.cache.length cap) vl) := by
    have hD : Lies W0.drew Z d m vo (.slice (some ⟨g, 0, none⟩) m.cache.length cap) vl := HLa.out.stays (fun _ _ => rfl) (Nat.le_refl _)
    exact hD.grown rfl h2 _ (keys_set _ _ _ _ HK.out) (by rw [hlen]; exact h1)
  have HTu : Hid (Turn Z w (W0.drew.setCells g (j * 64) (ba x).toList)) :=
    ((Turn.of_below HA.out).trans' (Turn.drew Z W0)).trans' (turn_grown (w := W0.drew) h2 (HL.out.zb g rfl))
  clear h1 h2 hT hB
  go_wp2
  refine bodyPost_ret (results_none rfl _ _ _) rfl ?_
  exact ⟨rfl, ⟨putAt_ok HO.out HK.out HX.out HX8.out HKn.out, _, _, _, HP.out⟩, HTu.out⟩

end Go.Proofs.YtkhghkklekjdaaaDoor.sector
