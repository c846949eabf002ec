/- The cache is laid down by a pick. -/
import Derived.Test.YtkhghkklekjdaaaDoorRows
import Derived.Test.YtkhghkklekjdaaaDoorSectorPut
import Derived.Lib.Zigzag
namespace Go.Proofs.YtkhghkklekjdaaaDoor.sector
open Go.RowKit
open Go.Proofs.YtkhghkklekjdaaaDoor.kit Go.Proofs.YtkhghkklekjdaaaDoor.own
set_option linter.unusedVariables false

def bitAt (p j : Nat) : Nat := p / 2 ^ (j % 64) % 2
/-- A sector's bytes are laid down. -/
def layAt (l : List Nat) (k : Nat) (x : List Nat) : List Nat := splice l (k * 64) x
/-- What is laid down of the cache, the first one being number j. -/
def settleF (p : Nat) : Nat → List (Nat × List Nat) → List Nat → List Nat
  | _, [], l => l
  | j, c :: r, l => settleF p (j + 1) r (if bitAt p j = 1 then layAt l c.1 c.2 else l)
theorem settleF_snoc (p : Nat) (x : Nat × List Nat) : ∀ (c : List (Nat × List Nat)) (j : Nat) (l : List Nat), settleF p j (c ++ [x]) l = if bitAt p (j + c.length) = 1 then layAt (settleF p j c l) x.1 x.2 else settleF p j c l
  | [], j, l => by simp [settleF]
  | y :: c, j, l => by
    rw [List.cons_append, settleF, settleF_snoc p x c (j + 1)]
    simp only [settleF, List.length_cons]
    rw [show j + 1 + c.length = j + (c.length + 1) by omega]
theorem settleF_take (p : Nat) (c : List (Nat × List Nat)) (q : Nat) (hq : q < c.length) (l : List Nat) :
    settleF p 0 (c.take (q + 1)) l = if bitAt p q = 1 then layAt (settleF p 0 (c.take q) l) ((keys c).getD q 0) (nth c q) else settleF p 0 (c.take q) l := by
  rw [List.take_succ_eq_append_getElem hq, settleF_snoc]
  have e1 : c[q].1 = (keys c).getD q 0 := by simp [keys, List.getD, hq]
  have e2 : c[q].2 = nth c q := by simp [nth, List.getD, hq]
  have e3 : 0 + (c.take q).length = q := by simp; omega
  rw [e1, e2, e3]
theorem layAt_len {l : List Nat} {k n : Nat} {x : List Nat} (hl : l.length = 64 * n) (hx : x.length = 64) (hk : k < n) : (layAt l k x).length = 64 * n := by
  rw [← hl]
  refine length_splice _ _ _ ?_
  omega
theorem layAt_lt {l : List Nat} {k : Nat} {x : List Nat} (hl : ∀ y ∈ l, y < 256) (hx : ∀ y ∈ x, y < 256) : ∀ y ∈ layAt l k x, y < 256 := by
  intro y hy
  unfold layAt splice at hy
  rcases List.mem_append.1 hy with h | h
  · exact hl y (List.mem_of_mem_take h)
  · rcases List.mem_append.1 h with h | h
    · exact hx y h
    · exact hl y (List.mem_of_mem_drop h)
theorem settleF_ok (p n : Nat) : ∀ (c : List (Nat × List Nat)) (j : Nat) (l : List Nat), (∀ q ∈ c, q.1 < n ∧ q.2.length = 64 ∧ ∀ x ∈ q.2, x < 256) → l.length = 64 * n → (∀ x ∈ l, x < 256) → (settleF p j c l).length = 64 * n ∧ ∀ x ∈ settleF p j c l, x < 256
  | [], j, l, _, h1, h2 => ⟨h1, h2⟩
  | y :: c, j, l, hc, h1, h2 => by
    have hy := hc y (by simp)
    unfold settleF
    split
    · exact settleF_ok p n c _ _ (fun q hq => hc q (by simp [hq])) (layAt_len h1 hy.2.1 hy.1) (layAt_lt h2 hy.2.2)
    · exact settleF_ok p n c _ _ (fun q hq => hc q (by simp [hq])) h1 h2

/-- The device whose first q ones are laid down, the cache as it was. -/
def settledTo (m : Dev) (p q : Nat) : Dev := { m with laid := settleF p 0 (m.cache.take q) m.laid }
def settled (m : Dev) (p : Nat) : Dev := { m with laid := settleF p 0 m.cache m.laid, cache := [] }
theorem settled_ok {m : Dev} (h : m.Ok) (p : Nat) : (settled m p).Ok := by
  obtain ⟨h1, h2⟩ := settleF_ok p m.n m.cache 0 m.laid h.cache h.laid h.laidLt
  exact ⟨h.n, h1, h2, fun q hq => (by cases hq), by simp [settled, keys], h.cut, h.ws, h.fs⟩

/-- Cells of the laid row are written. -/
theorem Lies.lay {w : World} {Z : Nat → Prop} {d : Nat} {m : Dev} {vo vb : Value} {g cap : Nat} (h : Lies w Z d m vo vb (.slice (some ⟨g, 0, none⟩) m.n cap)) (k : Nat) (x : List Nat) (hk : k < m.n) (hx : x.length = 64) :
    Lies (w.setCells g (k * 64) (bv x)) Z d { m with laid := layAt m.laid k x } vo vb (.slice (some ⟨g, 0, none⟩) m.n cap) ∧ w.grownBy (w.setCells g (k * 64) (bv x)) (some g) := by
  have hkl : (k + 1) * 64 ≤ m.n * 64 := Nat.mul_le_mul_right _ hk
  obtain ⟨h1, h2⟩ := own_setCells (bv x) (k * 64) w _ h.laid (by rw [bv_len]; omega)
  rw [bv_splice] at h1
  have n1 := own_ne h.laid h.order (by decide) (g := g) rfl
  have n2 := own_ne_box h.laid h.box (by decide)
  refine ⟨⟨(h2.block d h.lt (fun e => n2 e.symm)).trans h.box, own_stays h.order (fun q hq => h2.block q (h.order.lt q hq).2 (fun e => by cases e; exact n1 hq)),
    own_stays h.blocks (fun q hq => h2.block q (h.blocks.lt q hq).2 (fun e => by cases e; exact h.apart _ hq rfl)), h1, h.apart, h.zd, h.zo, h.zb, h.zl, fun q hq => Nat.lt_of_lt_of_le (h.zlt q hq) h2.size⟩, h2⟩

theorem Lies.vl_form {w : World} {Z : Nat → Prop} {d : Nat} {m : Dev} {vo vb vl : Value} (h : Lies w Z d m vo vb vl) (h0 : 0 < m.n) : ∃ g cap, vl = .slice (some ⟨g, 0, none⟩) m.n cap := row_form h.laid h0

theorem bit_and (p k : Nat) (hp : p < 18446744073709551616) : bits BinOp.and IntKind.u64 ((p : Int) / 2 ^ k) 1 = ((p / 2 ^ k % 2 : Nat) : Int) := by
  have e : ((p : Int) / 2 ^ k) = ((p / 2 ^ k : Nat) : Int) := by simp
  have h1 := Nat.div_le_self p (2 ^ k)
  generalize p / 2 ^ k = s at e h1 ⊢
  rw [e, Lib.u64_and1 _ (by omega) (by omega)]
  simp
theorem settledTo_ok {m : Dev} (h : m.Ok) (p q : Nat) : (settledTo m p q).Ok := by
  obtain ⟨h1, h2⟩ := settleF_ok p m.n (m.cache.take q) 0 m.laid (fun x hx => h.cache x (List.mem_of_mem_take hx)) h.laid h.laidLt
  exact ⟨h.n, h1, h2, h.cache, h.once, h.cut, h.ws, h.fs⟩
theorem settledTo_yes {m : Dev} {p q : Nat} (hq : q < m.cache.length) (hb : bitAt p q = 1) : settledTo m p (q + 1) = { settledTo m p q with laid := layAt (settledTo m p q).laid ((keys m.cache).getD q 0) (nth m.cache q) } := by
  simp only [settledTo]
  rw [settleF_take p m.cache q hq, if_pos hb]
theorem settledTo_no {m : Dev} {p q : Nat} (hq : q < m.cache.length) (hb : bitAt p q ≠ 1) : settledTo m p (q + 1) = settledTo m p q := by
  simp only [settledTo]
  rw [settleF_take p m.cache q hq, if_neg hb]

theorem Lies.emptied {w : World} {Z : Nat → Prop} {d p q : Nat} {m : Dev} {vo vb vl : Value} (h : Lies w Z d (settledTo m p q) vo vb vl) (hq : m.cache.take q = m.cache) :
    ∃ vo vb vl, Lies ((w.setCell ⟨d, 0, none⟩ (.slice none 0 0)).setCell ⟨d, 1, none⟩ (.slice none 0 0)) Z d (settled m p) vo vb vl := by
  have hs : ∀ k, k ≠ d → ((w.setCell ⟨d, 0, none⟩ (.slice none 0 0)).setCell ⟨d, 1, none⟩ (.slice none 0 0)).heap[k]? = w.heap[k]? := fun k hk => (heap_setCell_other _ _ k _ hk).trans (heap_setCell_other _ _ k _ hk)
  refine ⟨.slice none 0 0, .slice none 0 0, vl, ?_, OwnI.nil _ _ _ _, World.ownsRow_nil _ _ _ _, ?_, fun g hg => (by cases hg), h.zd, fun g hg => (by cases hg), fun g hg => (by cases hg), h.zl, fun k hk => (by
    have := h.zlt k hk
    simpa using this)⟩
  · rw [cell_set _ (cell_set _ h.box)]
    simp [devCells, settledTo, settled, isCut, cutLeft, cutPick]
  · have h1 := own_stays h.laid (fun g hg => hs g (fun e => own_ne_box h.laid h.box (by decide) (by rw [hg, e])))
    have e : (settledTo m p q).laid = (settled m p).laid := by simp only [settledTo, settled, hq]
    rw [e] at h1
    exact h1

set_option maxHeartbeats 4000000 in
set_option maxRecDepth 100000 in
theorem settle_any (w : World) (Z : Nat → Prop) (d : Nat) (m : Dev) (vo vb vl : Value) (ho : m.Ok) (hl : Lies w Z d m vo vb vl) (p : Nat) (hp : p < 18446744073709551616) (z : Int) (hz : z = (p : Int)) :
    Calls Tryd.prog 71 #[.pointer (some ⟨d, 0, none⟩), vl, .int .u64 z] w (Does0 w Z d (settled m p) (.returned (.tuple #[]))) := by
  subst hz
  have HL := Lib.hid hl; have HO := Lib.hid ho; have HP := Lib.hid hp
  obtain ⟨a, cap, rfl⟩ := hl.vo_len
  have c0 := hl.cell 0
  simp [devCells] at c0
  have HLen := Lib.hid ho.len
  have hlen : m.cache.length ≤ 4096 := ho.len
  obtain ⟨L, hL⟩ : ∃ L, m.cache.length = L := ⟨_, rfl⟩
  have HLn := Lib.hid hL
  rw [hL] at c0 hlen HL
  clear hl ho hL hp
  go_enter Tryd.func71, Tryd.ntmps71
  go_wp2
  go_loopw [13] (fun i wr => ∃ q : Nat, q ≤ L ∧ i = .int .i64 q ∧ Lies wr Z d (settledTo m p q) (.slice a L cap) vb vl ∧ Turn Z w wr) (fun i _ => L - (intOf i).toNat)
  case atStart => exact ⟨0, by omega, rfl, by have := HL.out; simpa [settledTo, settleF] using this, Turn.refl _ _⟩
  case round =>
    obtain ⟨q, hq, rfl, hl, ht⟩ := hrel
    have HLi := Lib.hid hl; have HT := Lib.hid ht
    by_cases hqL : q < L
    · have hqI : (q : Int) < L := by omega
      have hq0 : (0 : Int) ≤ q := by omega
      obtain ⟨go, cp, hgo⟩ := row_form hl.order (by rw [keys_len]; show 0 < m.cache.length; have := HLn.out; omega)
      have hgo' : a = some ⟨go, 0, none⟩ := by injection hgo
      subst hgo'
      clear hgo
      have hqm : q < m.cache.length := by have := HLn.out; omega
      have ck := SlI.cell hl.order.read q (by rw [keys_len]; exact hqm)
      rw [Nat.zero_add] at ck
      have hkey : (keys (settledTo m p q).cache).getD q 0 = (keys m.cache).getD q 0 := rfl
      rw [hkey] at ck
      clear hkey
      have hin := HO.out.cache _ (nth_mem hqm)
      obtain ⟨gb, cb, hvb, hrng⟩ := hl.block_at (settledTo_ok HO.out p q) (j := q) hqm
      obtain ⟨gl, cl, hvl⟩ := hl.vl_form (show 0 < m.n by have := hin.1; omega)
      have c1 := hl.cell 1
      simp [devCells] at c1
      have hcl : (settledTo m p q).cache.length = L := HLn.out
      rw [hcl] at hvb
      subst hvb
      have hnn : (settledTo m p q).n = m.n := rfl
      rw [hnn] at hvl
      subst hvl
      clear hnn hcl
      have e1 : True → bits BinOp.and IntKind.u64 ((p : Int) / 2 ^ (q % 64)) 1 = ((bitAt p q : Nat) : Int) := fun _ => bit_and p (q % 64) HP.out
      have HLay := Lib.hid (hl.lay ((keys m.cache).getD q 0) (nth m.cache q) hin.1 hin.2.1)
      have HT' := Lib.hid (own_there hl.laid (((keys m.cache).getD q 0) * 64) 64 (by
        have := Nat.mul_le_mul_right 64 (show (keys m.cache).getD q 0 + 1 ≤ m.n from hin.1)
        show _ ≤ m.n * 64
        omega))
      have HKn := Lib.hid hin.1
      have HX := Lib.hid hin.2.1
      have HR := Lib.hid hrng
      have hKI : (((keys m.cache).getD q 0 : Nat) : Int) < (m.n : Int) := by have := hin.1; omega
      have HYes := Lib.hid (fun h => settledTo_yes (p := p) hqm h); have HNo := Lib.hid (fun h => settledTo_no (p := p) hqm h)
      have hK0 : (0 : Int) ≤ (((keys m.cache).getD q 0 : Nat) : Int) := by omega
      have hx2 : (ba (nth m.cache q)).size = 64 := by rw [ba_size]; exact hin.2.1
      have hi1 : (Tryd.prog.info? 61).map (·.size) = some (bv (nth m.cache q)).length := by rw [bv_len, HX.out]; exact infoBlk
      have hi2 : (Tryd.prog.info? 61).map (·.size) = some (ba (nth m.cache q)).size := by rw [hx2]; exact infoBlk
      have HI1 := Lib.hid hi1; have HI2 := Lib.hid hi2; have HX2 := Lib.hid hx2
      clear hin hrng hqm hl ht c0 hi1 hi2 hx2
      generalize (keys m.cache).getD q 0 = K at ck hKI hK0 HLay HT' HKn HYes
      by_cases hb : bitAt p q = 1
      · have e2 : True → (((bitAt p q : Nat) : Int) == 1) = true := fun _ => by rw [hb]; rfl
        have HE := Lib.hid (HYes.out hb)
        generalize bitAt p q = bt at e1 e2
        clear hb HYes HNo
        have hT2 : wr.there gl (K * 64) (ba (nth m.cache q)).size := by rw [HX2.out]; exact HT'.out
        go_wp2_with (first
          | refine wpList_load_mid rfl 61 _ rfl gb (q * 64) rfl (bv (nth m.cache q)) _ HR.out Tryd.underlying61 rfl HI1.out ?_
          | refine wpList_store_mid rfl 61 _ _ rfl gl (K * 64) (ba (nth m.cache q)) rfl rfl hT2 HI2.out (ba_one _) ?_)
        go_roundw
        case rel =>
          obtain ⟨h1, h2⟩ := HLay.out
          rw [ba_list]
          refine ⟨q + 1, by omega, by go_num, ?_, HT.out.trans' (turn_grown h2 (HLi.out.zl gl rfl))⟩
          rw [HE.out]
          exact h1
        case measure => simp [intOf]; omega
      · have e2 : True → (((bitAt p q : Nat) : Int) == 1) = false := fun _ => by rw [beq_eq_false_iff_ne]; omega
        have HE := Lib.hid (HNo.out hb)
        generalize bitAt p q = bt at e1 e2
        clear hb HYes HNo
        go_wp2
        go_roundw
        case rel =>
          refine ⟨q + 1, by omega, by go_num, ?_, HT.out⟩
          rw [HE.out]
          exact HLi.out
        case measure => simp [intOf]; omega
    · obtain rfl : q = L := by omega
      have c0' := hl.cell 0; have c1' := hl.cell 1
      have f0' := hl.free 0; have f1' := hl.free 1
      simp [devCells] at c0' c1'
      have hqI : ¬ (q : Int) < (q : Int) := by omega
      clear hl ht c0
      go_wp2
      refine bodyPost_end (results_none rfl _ _ _) rfl ?_
      refine ⟨rfl, ⟨settled_ok HO.out p, HLi.out.emptied (by rw [← HLn.out, List.take_length])⟩, HT.out.trans' ((turn_setCell (a := ⟨d, 0, none⟩) _ HL.out.zd).trans' (turn_setCell (a := ⟨d, 1, none⟩) _ HL.out.zd))⟩

end Go.Proofs.YtkhghkklekjdaaaDoor.sector
