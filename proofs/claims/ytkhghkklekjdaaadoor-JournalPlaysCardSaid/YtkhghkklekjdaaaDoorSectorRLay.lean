/- The document's device lays down: lay, Flush, Lose. -/
import Derived.Test.YtkhghkklekjdaaaDoorRows
import Derived.Test.YtkhghkklekjdaaaDoorSectorRef
namespace Go.Proofs.YtkhghkklekjdaaaDoor.sector
open Go.RowKit
open Go.Proofs.YtkhghkklekjdaaaDoor.kit Go.Proofs.YtkhghkklekjdaaaDoor.own
set_option linter.unusedVariables false

theorem str_index (x : List Nat) (h8 : ∀ y ∈ x, y < 256) (i : Nat) (hi : i < x.length) (w : World) : (Instr.index 9 (.string (strN x)) (.int .i64 (i : Nat))).run Tryd.prog w = .ok (.int .u8 (x.getD i 0 : Nat)) w := by
  have h0 : (0 : Int) ≤ (i : Int) := by omega
  have hs : (strN x)[i]? = some (UInt8.ofNat (x.getD i 0)) := by
    have hsz : (strN x).size = x.length := by unfold strN; rw [strOfNums_size]; simp
    rw [getElem?_pos (strN x) i (by rw [hsz]; exact hi)]
    congr 1
    have : (strN x)[i]'(by rw [hsz]; exact hi) = (strN x).data.toList[i]'(by simpa [hsz] using hi) := rfl
    rw [this]
    simp [strN, strOfNums, List.getD, hi]
  have hb : (UInt8.ofNat (x.getD i 0)).toNat = x.getD i 0 := by
    have : x.getD i 0 < 256 := by
      simp only [List.getD, List.getElem?_eq_getElem hi, Option.getD_some]
      exact h8 _ (List.getElem_mem hi)
    rw [UInt8.toNat_ofNat']
    omega
  generalize UInt8.ofNat (x.getD i 0) = u at hs hb
  rw [← hb]
  simp [Instr.index, run_underlying Tryd.underlying9, asIntOf, go_sem, hs]

/-- So many bytes of a sector laid down. -/
def layTo (m : Dev) (k : Nat) (x : List Nat) (q : Nat) : Dev := { m with laid := splice m.laid (k * 64) (x.take q) }
theorem layTo_step (l : List Nat) (o : Nat) (x : List Nat) (q : Nat) (hq : q < x.length) (hl : o + x.length ≤ l.length) : (splice l o (x.take q)).set (o + q) (x.getD q 0) = splice l o (x.take (q + 1)) := by
  have h1 : (l.take o).length = o := by rw [List.length_take]; omega
  have h2 : (x.take q).length = q := by rw [List.length_take]; omega
  have h3 : (x.take (q + 1)).length = q + 1 := by rw [List.length_take]; omega
  simp only [splice, h2, h3]
  rw [List.set_append_right _ _ (by omega), h1, show o + q - o = q by omega, List.set_append_right _ _ (by omega), h2, Nat.sub_self, List.take_succ_eq_append_getElem hq]
  have h4 : l.drop (o + q) = l[o + q]'(by omega) :: l.drop (o + q + 1) := List.drop_eq_getElem_cons (by omega)
  rw [h4, List.set_cons_zero, List.append_assoc, show o + (q + 1) = o + q + 1 by omega]
  simp [List.getD, hq]

theorem RLies.drew {w : World} {Z : Nat → Prop} {d : Nat} {m : Dev} {vd vc : Value} {pk : Nat} (h : RLies w Z d m vd vc pk) : RLies w.drew Z d m vd vc pk := h.stays (fun _ _ => rfl) (Nat.le_refl _)
theorem lay_ok {m : Dev} (h : m.Ok) {k : Nat} {x : List Nat} (hk : k < m.n) (hx : x.length = 64) (h8 : ∀ y ∈ x, y < 256) : ({ m with laid := layAt m.laid k x } : Dev).Ok :=
  ⟨h.n, layAt_len h.laid hx hk, layAt_lt h.laidLt h8, h.cache, h.once, h.cut, h.ws, h.fs⟩
/-- A byte that is laid down is written. -/
theorem RLies.put {w : World} {Z : Nat → Prop} {d : Nat} {m m' : Dev} {g L cap : Nat} {vc : Value} {pk : Nat} (h : RLies w Z d m (.slice (some ⟨g, 0, none⟩) L cap) vc pk) (i b : Nat) (hm : m' = { m with laid := m.laid.set i b }) (hL : m.laid.length = L) :
    RLies (w.setCell ⟨g, i, none⟩ (.int .u8 (b : Int))) Z d m' (.slice (some ⟨g, 0, none⟩) L cap) vc pk ∧ Turn Z w (w.setCell ⟨g, i, none⟩ (.int .u8 (b : Int))) := by
  subst hm hL
  have hd := h.down
  obtain ⟨r1, r2⟩ := World.ownsRow.stored (g := g) hd i (.int .u8 (b : Int))
  have n1 := own_ne (e' := 112) hd h.cache (by decide) (g := g) rfl
  have n2 := own_ne_box hd h.box (by decide)
  refine ⟨⟨(r2.block d h.lt (fun e => n2 e.symm)).trans h.box, ?_, own_stays h.cache (fun q hq => r2.block q (h.cache.lt q hq).2 (fun e => by cases e; exact n1 hq)), h.pick, h.zd, h.zo, h.zc, fun q hq => Nat.lt_of_lt_of_le (h.zlt q hq) r2.size⟩, turn_grown r2 (h.zo g rfl)⟩
  show World.ownsRow _ 0 _ 1 _ _ _
  rw [List.map_set, List.length_set]
  exact r1

set_option maxHeartbeats 4000000 in
set_option maxRecDepth 100000 in
theorem lay_any (w : World) (Z : Nat → Prop) (d : Nat) (m : Dev) (h : RAt w Z d m) (k : Nat) (x : List Nat) (hk : k < m.n) (hx : x.length = 64) (h8 : ∀ y ∈ x, y < 256) :
    Calls Tryd.prog 60 #[.pointer (some ⟨d, 0, none⟩), .agg #[.int .i64 (k : Nat), .string (strN x)]] w (RDoes0 w Z d { m with laid := layAt m.laid k x } (.returned (.tuple #[]))) := by
  obtain ⟨ho, vd, vc, pk, hl⟩ := h
  have HO := Lib.hid ho
  obtain ⟨g, cap, rfl⟩ := own_form hl.down (64 * m.n) ho.laid (by omega)
  have hB := (Below.refl w.heap.size w).alloc (Nat.le_refl _) (.cells #[.int .i64 (k : Nat), .string (strN x)] 112)
  have hl1 := hl.stays (fun q hq => hB.block q (hl.zlt q hq)) hB.size
  have hbx := alloc_at w (.cells #[.int .i64 (k : Nat), .string (strN x)] 112)
  have HT0 := Lib.hid (Turn.of_below (Z := Z) hB)
  have HLd := Lib.hid ho.laid
  have hkn := Nat.mul_le_mul_right 64 (show k + 1 ≤ m.n from hk)
  have hn4 := ho.n
  have HX := Lib.hid hx; have H8 := Lib.hid h8
  have HL1 := Lib.hid hl1; have HBx := Lib.hid hbx
  have HZl := Lib.hid (show ¬ Z w.heap.size from fun h => by have := hl.zlt _ h; omega)
  obtain ⟨N, hN⟩ : ∃ N, m.n = N := ⟨_, rfl⟩
  have HN := Lib.hid hN
  rw [hN] at HL1 HLd hkn hn4 hk
  clear hl ho hB hl1 hbx hN hx h8
  go_enter Tryd.func60, Tryd.ntmps60
  go_upto_region 1 with fail
  generalize (w.alloc (.cells #[.int .i64 (k : Int), .string (strN x)] 112)) = W0 at HL1 HBx HT0 ⊢
  go_wp2_with fail
  go_loopw [4] (fun i wr => ∃ q : Nat, q ≤ 64 ∧ i = .int .i64 q ∧ RLies wr Z d (layTo m k x q) (.slice (some ⟨g, 0, none⟩) (64 * N) cap) vc pk ∧ wr.heap[w.heap.size]? = some (.cells #[.int .i64 (k : Nat), .string (strN x)] 112 (0, 0)) ∧ Turn Z w wr) (fun i _ => 64 - (intOf i).toNat)
  case atStart => exact ⟨0, by omega, rfl, by have := HL1.out; simpa [layTo, splice] using this, HBx.out, HT0.out⟩
  case round =>
    obtain ⟨q, hq, rfl, hl, hb, ht⟩ := hrel
    have HL := Lib.hid hl; have HB := Lib.hid hb; have HT := Lib.hid ht
    clear hl hb ht HL1 HBx HT0
    by_cases hq64 : q < 64
    · have hqI : (q : Int) < 64 := by omega
      have hq0 : (0 : Int) ≤ (q : Int) := by omega
      have c1 := HL.out.cell 1
      have a0 : wr.cell? ⟨w.heap.size, 0, none⟩ = some (.int .i64 (k : Nat)) := by simp [World.cell?, HB.out]
      have a1 : wr.cell? ⟨w.heap.size, 1, none⟩ = some (.string (strN x)) := by simp [World.cell?, HB.out]
      simp [rCells] at c1
      have hll : (layTo m k x q).laid.length = 64 * N := by
        have h1 : (x.take q).length = q := by rw [List.length_take, HX.out]; omega
        show (splice m.laid (k * 64) (x.take q)).length = _
        rw [length_splice _ _ _ (by rw [h1, HLd.out]; omega), HLd.out]
      have HLl := Lib.hid hll
      have hidx := fun W => str_index x H8.out q (by rw [HX.out]; exact hq64) W
      have cc := SlI.cell HL.out.down.read (k * 64 + q) (by rw [hll]; omega)
      rw [Nat.zero_add] at cc
      have ff : wr.frozen? ⟨g, k * 64 + q, none⟩ = false := by
        have hd := HL.out.down
        unfold OwnI at hd
        rw [hll] at hd
        exact hd.frozenAt _
      have hPut := HL.out.drew.put (m' := layTo m k x (q + 1)) (k * 64 + q) (x.getD q 0) (by
        show layTo m k x (q + 1) = { m with laid := (splice m.laid (k * 64) (x.take q)).set (k * 64 + q) (x.getD q 0) }
        rw [layTo_step m.laid (k * 64) x q (by rw [HX.out]; exact hq64) (by rw [HX.out, HLd.out]; omega)]
        rfl) hll
      have HPut := Lib.hid hPut
      have b1 : (k : Int) * 64 + (q : Int) < 64 * (N : Int) := by omega
      have b2 : (0 : Int) ≤ (k : Int) * 64 + (q : Int) := by omega
      have e9 : True → IntKind.i64.wrap ((k : Int) * 64) = (k : Int) * 64 := fun _ => by simp [IntKind.wrap, IntKind.bits, IntKind.signed]; omega
      have e10 : True → IntKind.i64.wrap ((k : Int) * 64 + (q : Int)) = (k : Int) * 64 + (q : Int) := fun _ => by simp [IntKind.wrap, IntKind.bits, IntKind.signed]; omega
      have e11 : True → ((k : Int) * 64 + (q : Int)).toNat = k * 64 + q := fun _ => by omega
      clear hPut hll
      generalize x.getD q 0 = xq at hidx HPut
      go_upto_region 4 with fail
      go_still_tail 14, (by kernel_rfl)
      change wpList _ _ _ _ _ wr.drew
      have HB2 := Lib.hid (show (wr.drew.setCell ⟨g, k * 64 + q, none⟩ (.int .u8 (xq : Int))).heap[w.heap.size]? = some (.cells #[.int .i64 (k : Nat), .string (strN x)] 112 (0, 0)) from
        (heap_setCell_other wr.drew _ w.heap.size _ (fun e => HZl.out (by rw [show w.heap.size = g from e]; exact HL.out.zo g rfl))).trans HB.out)
      have hxI : (q : Int) + 1 ≤ 64 := by omega
      clear e9 e10 hidx
      go_wp2
      go_roundw
      case rel => exact ⟨q + 1, by omega, by go_num, HPut.out.1, HB2.out, (HT.out.trans' (Turn.drew Z wr)).trans' HPut.out.2⟩
      case measure => simp [intOf]; omega
    · obtain rfl : q = 64 := by omega
      have hf : layTo m k x 64 = { m with laid := layAt m.laid k x } := by
        unfold layTo layAt
        rw [List.take_of_length_le (by rw [HX.out]; omega)]
      rw [hf] at HL
      have hOk := lay_ok HO.out (by rw [HN.out]; exact hk) HX.out H8.out
      clear hf
      go_wp2
      refine bodyPost_end (results_none rfl _ _ _) rfl ?_
      exact ⟨rfl, ⟨hOk, _, _, _, HL.out⟩, HT.out⟩

theorem slots_len (c : List (Nat × List Nat)) : (slots c).length = c.length * 2 := by
  induction c with
  | nil => rfl
  | cons p c ih =>
    unfold slots at ih ⊢
    rw [List.flatMap_cons, List.length_append, ih, List.length_cons]
    simp; omega
theorem slots_at : ∀ (c : List (Nat × List Nat)) (j : Nat), j < c.length → (slots c)[j * 2]? = some (.int .i64 ((keys c).getD j 0 : Nat)) ∧ (slots c)[j * 2 + 1]? = some (.string (strN (nth c j)))
  | [], j, h => by simp at h
  | p :: c, 0, h => ⟨rfl, rfl⟩
  | p :: c, j + 1, h => by
    have ih := slots_at c j (by simpa using h)
    have e1 : (slots (p :: c))[(j + 1) * 2]? = (slots c)[j * 2]? := by
      rw [show (j + 1) * 2 = j * 2 + 2 by omega]; rfl
    have e2 : (slots (p :: c))[(j + 1) * 2 + 1]? = (slots c)[j * 2 + 1]? := by
      rw [show (j + 1) * 2 + 1 = j * 2 + 1 + 2 by omega]; rfl
    exact ⟨e1.trans ih.1, e2.trans ih.2⟩
theorem RLies.slot {w : World} {Z : Nat → Prop} {d : Nat} {m : Dev} {vd vc : Value} {pk : Nat} (h : RLies w Z d m vd vc pk) {j : Nat} (hj : j < m.cache.length) :
    ∃ g cap, vc = .slice (some ⟨g, 0, none⟩) m.cache.length cap ∧ w.cell? ⟨g, j * 2, none⟩ = some (.int .i64 ((keys m.cache).getD j 0 : Nat)) ∧ w.cell? ⟨g, j * 2 + 1, none⟩ = some (.string (strN (nth m.cache j))) := by
  obtain ⟨g, cap, rfl⟩ := row_form h.cache (by omega)
  have := slots_at m.cache j hj
  exact ⟨g, cap, rfl, (h.cache.cellAt (j * 2) (by omega)).trans this.1, (h.cache.cellAt (j * 2 + 1) (by omega)).trans this.2⟩

set_option maxRecDepth 100000 in
theorem rLose_dead (w : World) (Z : Nat → Prop) (d : Nat) (m : Dev) (h : RAt w Z d m) (hp : m.power = false) (p : Int) :
    Calls Tryd.prog 59 #[.pointer (some ⟨d, 0, none⟩), .int .u64 p] w fun e w' => e = .returned (.tuple #[]) ∧ w = w' := by
  obtain ⟨ho, vd, vc, pk, hl⟩ := h
  have c0 := hl.cell 0; have c3 := hl.cell 3
  simp [rCells, hp] at c0 c3
  clear hl ho hp
  go_enter Tryd.func59, Tryd.ntmps59
  go_wp2
  refine bodyPost_ret (results_none rfl _ _ _) rfl ?_
  exact ⟨rfl, rfl⟩

/-- The cache is emptied, and other cells of the device's are turned. -/
theorem RLies.emptied {w w' : World} {Z : Nat → Prop} {d : Nat} {m m' : Dev} {vd vc : Value} {pk : Nat} (h : RLies w Z d m vd vc pk) (hbox : w'.heap[d]? = some (.cells (rCells m' vd (.slice none 0 0) pk) 73 (0, 0)))
    (hs : ∀ k, k ≠ d → w'.heap[k]? = w.heap[k]?) (hz : w.heap.size ≤ w'.heap.size) (hc : m'.cache = []) (hl : m'.laid = m.laid) (hp : ∀ p, m'.cut = some p → pk = p.2) : RLies w' Z d m' vd (.slice none 0 0) pk := by
  have n1 := own_ne_box h.down h.box (by decide)
  refine ⟨hbox, ?_, ?_, hp, h.zd, h.zo, fun g hg => (by cases hg), fun k hk => Nat.lt_of_lt_of_le (h.zlt k hk) hz⟩
  · rw [hl]
    exact own_stays h.down (fun g hg => hs g (fun e => n1 (e ▸ hg)))
  · rw [hc]
    exact World.ownsRow_nil _ _ _ _

set_option maxHeartbeats 4000000 in
set_option maxRecDepth 100000 in
theorem rLose_on (w : World) (Z : Nat → Prop) (d : Nat) (m : Dev) (h : RAt w Z d m) (hp : m.power = true) (p : Nat) (h64 : p < 18446744073709551616) (z : Int) (hz : z = (p : Int)) :
    Calls Tryd.prog 59 #[.pointer (some ⟨d, 0, none⟩), .int .u64 z] w (RDoes0 w Z d (lost m p) (.returned (.tuple #[]))) := by
  subst hz
  have HM := Lib.hid h
  obtain ⟨ho, vd, vc, pk, hl⟩ := h
  have HO := Lib.hid ho; have HP := Lib.hid h64; have HPw := Lib.hid hp
  have c0 := hl.cell 0; have c3 := hl.cell 3
  simp [rCells, hp] at c0 c3
  have hlen : m.cache.length ≤ 4096 := ho.len
  clear hl ho hp h64
  go_enter Tryd.func59, Tryd.ntmps59
  go_wp2_with fail
  clear c0 c3
  go_loopw [4] (fun i wr => ∃ q : Nat, q ≤ m.cache.length ∧ i = .int .i64 q ∧ RAt wr Z d (settledTo m p q) ∧ Turn Z w wr) (fun i _ => m.cache.length - (intOf i).toNat)
  case atStart => exact ⟨0, by omega, rfl, by have := HM.out; simpa [settledTo, settleF] using this, Turn.refl _ _⟩
  case round =>
    obtain ⟨q, hq, rfl, hr, ht⟩ := hrel
    have HR := Lib.hid hr; have HT := Lib.hid ht
    clear hr ht HM
    obtain ⟨ho, vd, vc, pk, hl⟩ := HR.out
    have c2 := hl.cell 2
    simp [rCells] at c2
    by_cases hqn : q < m.cache.length
    · obtain ⟨g, cap, rfl, a0, a1⟩ := hl.slot (j := q) hqn
      have ek : keys (settledTo m p q).cache = keys m.cache := rfl
      have en : nth (settledTo m p q).cache q = nth m.cache q := rfl
      have el : (settledTo m p q).cache.length = m.cache.length := rfl
      rw [ek] at a0
      rw [en] at a1
      rw [el] at c2
      have hin := HO.out.cache _ (nth_mem hqn)
      have e1 : True → bits BinOp.and IntKind.u64 ((p : Int) / 2 ^ (q % 64)) 1 = ((bitAt p q : Nat) : Int) := fun _ => bit_and p (q % 64) HP.out
      have HYes := Lib.hid (fun h => settledTo_yes (p := p) hqn h); have HNo := Lib.hid (fun h => settledTo_no (p := p) hqn h)
      have HLay := Lib.hid (lay_any wr Z d (settledTo m p q) HR.out _ (nth m.cache q) hin.1 hin.2.1 hin.2.2)
      have hqI : (q : Int) < (m.cache.length : Int) := by omega
      have hq0 : (0 : Int) ≤ (q : Int) := by omega
      clear hl ho ek en el hin
      generalize (keys m.cache).getD q 0 = K at a0 HLay HYes
      generalize nth m.cache q = X at a1 HLay HYes
      by_cases hb : bitAt p q = 1
      · have e2 : True → (((bitAt p q : Nat) : Int) == 1) = true := fun _ => by rw [hb]; rfl
        have HE := Lib.hid (HYes.out hb)
        generalize bitAt p q = bt at e1 e2
        clear hb HYes HNo
        go_wp2_with fail
        refine HLay.out.mono ?_
        rintro e w1 ⟨rfl, hr1, ht1⟩
        have HR1 := Lib.hid hr1; have HT1 := Lib.hid ht1
        clear hr1 ht1 HLay a0 a1 c2
        go_wp2
        go_roundw
        case rel => exact ⟨q + 1, by omega, by go_num, by rw [HE.out]; exact HR1.out, HT.out.trans' HT1.out⟩
        case measure => simp [intOf]; omega
      · have e2 : True → (((bitAt p q : Nat) : Int) == 1) = false := fun _ => by rw [beq_eq_false_iff_ne]; omega
        have HE := Lib.hid (HNo.out hb)
        generalize bitAt p q = bt at e1 e2
        clear hb HYes HNo HLay
        go_wp2
        go_roundw
        case rel => exact ⟨q + 1, by omega, by go_num, by rw [HE.out]; exact HR.out, HT.out⟩
        case measure => simp [intOf]; omega
    · obtain rfl : q = m.cache.length := by omega
      obtain ⟨ac, cc, rfl⟩ := own_any hl.cache
      have el : (settledTo m p m.cache.length).cache.length = m.cache.length := rfl
      rw [el] at c2
      have HL := Lib.hid hl
      have c3 := hl.cell 3; have c4 := hl.cell 4
      have f2 := hl.free 2; have f3 := hl.free 3; have f4 := hl.free 4
      simp [rCells] at c3 c4
      have hqI : ¬ ((m.cache.length : Nat) : Int) < ((m.cache.length : Nat) : Int) := by omega
      clear hl ho el
      go_wp2
      refine bodyPost_end (results_none rfl _ _ _) rfl ?_
      have hfin : settledTo m p m.cache.length = { settled m p with cache := m.cache } := by
        simp only [settledTo, settled, List.take_length]
      refine ⟨rfl, ⟨lost_ok HO.out p, vd, .slice none 0 0, pk, HL.out.emptied (m' := lost m p) ?_ (fun k hk => set3_other _ _ _ _ _ _ k hk) (by simp) rfl (by rw [hfin]; rfl) (fun p h => by cases h)⟩, HT.out.trans' (turn3 _ _ _ _ _ _ HL.out.zd)⟩
      rw [set3 _ _ _ _ _ _ HL.out.box]
      simp [rCells, lost, settled, settledTo, leftI]

set_option maxRecDepth 100000 in
theorem rFlush_dead (w : World) (Z : Nat → Prop) (d : Nat) (m : Dev) (h : RAt w Z d m) (hp : m.power = false) :
    Calls Tryd.prog 45 #[.pointer (some ⟨d, 0, none⟩)] w fun e w' => e = .returned (.int .i64 22) ∧ w = w' := by
  obtain ⟨ho, vd, vc, pk, hl⟩ := h
  have c0 := hl.cell 0; have c3 := hl.cell 3
  simp [rCells, hp] at c0 c3
  clear hl ho hp
  go_enter Tryd.func45, Tryd.ntmps45
  go_wp2
  go_ret
  exact ⟨rfl, rfl⟩

theorem bit_all (q : Nat) : bitAt allBits q = 1 := by
  unfold bitAt
  have : ∀ r : Fin 64, allBits / 2 ^ r.val % 2 = 1 := by decide +kernel
  exact this ⟨q % 64, by omega⟩

set_option maxHeartbeats 4000000 in
set_option maxRecDepth 100000 in
theorem rFlush_on (w : World) (Z : Nat → Prop) (d : Nat) (m : Dev) (h : RAt w Z d m) (hp : m.power = true) (hf : m.fs + 1 < 4611686018427387904) :
    Calls Tryd.prog 45 #[.pointer (some ⟨d, 0, none⟩)] w (RDoes0 w Z d (flushed m) (.returned (.int .i64 0))) := by
  have HM := Lib.hid h
  obtain ⟨ho, vd, vc, pk, hl⟩ := h
  have HO := Lib.hid ho; have HPw := Lib.hid hp; have HF := Lib.hid hf
  have c0 := hl.cell 0; have c3 := hl.cell 3
  simp [rCells, hp] at c0 c3
  have hlen : m.cache.length ≤ 4096 := ho.len
  clear hl ho hp hf
  go_enter Tryd.func45, Tryd.ntmps45
  go_wp2_with fail
  clear c0 c3
  go_loopw [3] (fun i wr => ∃ q : Nat, q ≤ m.cache.length ∧ i = .int .i64 q ∧ RAt wr Z d (settledTo m allBits q) ∧ Turn Z w wr) (fun i _ => m.cache.length - (intOf i).toNat)
  case atStart => exact ⟨0, by omega, rfl, by have := HM.out; simpa [settledTo, settleF] using this, Turn.refl _ _⟩
  case round =>
    obtain ⟨q, hq, rfl, hr, ht⟩ := hrel
    have HR := Lib.hid hr; have HT := Lib.hid ht
    clear hr ht HM
    obtain ⟨ho, vd, vc, pk, hl⟩ := HR.out
    have c2 := hl.cell 2
    simp [rCells] at c2
    by_cases hqn : q < m.cache.length
    · obtain ⟨g, cap, rfl, a0, a1⟩ := hl.slot (j := q) hqn
      have ek : keys (settledTo m allBits q).cache = keys m.cache := rfl
      have en : nth (settledTo m allBits q).cache q = nth m.cache q := rfl
      have el : (settledTo m allBits q).cache.length = m.cache.length := rfl
      rw [ek] at a0
      rw [en] at a1
      rw [el] at c2
      have hin := HO.out.cache _ (nth_mem hqn)
      have HE := Lib.hid (settledTo_yes (p := allBits) hqn (bit_all q))
      have HLay := Lib.hid (lay_any wr Z d (settledTo m allBits q) HR.out _ (nth m.cache q) hin.1 hin.2.1 hin.2.2)
      have hqI : (q : Int) < (m.cache.length : Int) := by omega
      have hq0 : (0 : Int) ≤ (q : Int) := by omega
      clear hl ho ek en el hin
      generalize (keys m.cache).getD q 0 = K at a0 HLay HE
      generalize nth m.cache q = X at a1 HLay HE
      go_wp2_with fail
      refine HLay.out.mono ?_
      rintro e w1 ⟨rfl, hr1, ht1⟩
      have HR1 := Lib.hid hr1; have HT1 := Lib.hid ht1
      clear hr1 ht1 HLay a0 a1 c2
      go_wp2
      go_roundw
      case rel => exact ⟨q + 1, by omega, by go_num, by rw [HE.out]; exact HR1.out, HT.out.trans' HT1.out⟩
      case measure => simp [intOf]; omega
    · obtain rfl : q = m.cache.length := by omega
      obtain ⟨ac, cc, rfl⟩ := own_any hl.cache
      have el : (settledTo m allBits m.cache.length).cache.length = m.cache.length := rfl
      rw [el] at c2
      have HL := Lib.hid hl
      have c7 := hl.cell 7
      have f2 := hl.free 2; have f7 := hl.free 7
      simp [rCells] at c7
      have e8 : (settledTo m allBits m.cache.length).fs = m.fs := rfl
      rw [e8] at c7
      have hfs : m.fs < 4611686018427387904 := by have := HF.out; omega
      have hqI : ¬ ((m.cache.length : Nat) : Int) < ((m.cache.length : Nat) : Int) := by omega
      have HFs := Lib.hid e8
      generalize hfe : m.fs = fs at c7 hfs
      have HFe := Lib.hid hfe
      clear hl ho el e8 hfe
      go_wp2
      go_ret
      have hfin : settledTo m allBits m.cache.length = { settled m allBits with cache := m.cache } := by
        simp only [settledTo, settled, List.take_length]
      refine ⟨rfl, ⟨flushed_ok HO.out HF.out, vd, .slice none 0 0, pk, HL.out.emptied (m' := flushed m) ?_ (fun k hk => set2_other _ _ _ _ k hk) (by simp) rfl (by rw [hfin]; rfl) HL.out.pick⟩, HT.out.trans' (turn2 _ _ _ _ HL.out.zd)⟩
      rw [cell_set _ (cell_set _ HL.out.box)]
      simp [rCells, flushed, settled, settledTo, leftI, HFe.out]

end Go.Proofs.YtkhghkklekjdaaaDoor.sector
