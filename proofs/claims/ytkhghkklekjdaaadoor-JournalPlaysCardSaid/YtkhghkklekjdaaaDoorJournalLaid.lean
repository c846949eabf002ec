/- The iterator over a record's sectors. -/
import Derived.Test.YtkhghkklekjdaaaDoorRows
import Derived.Test.YtkhghkklekjdaaaDoorJournalZeros
import Derived.Test.YtkhghkklekjdaaaDoorJournalSum
import Derived.Test.YtkhghkklekjdaaaDoorJournalIter
import Derived.Test.YtkhghkklekjdaaaDoorSectorAll
import Derived.Lib.Bytes
namespace Go.Proofs.YtkhghkklekjdaaaDoor.journal
open Go.RowKit
open Go.Proofs.YtkhghkklekjdaaaDoor.kit Go.Proofs.YtkhghkklekjdaaaDoor.own Go.Proofs.YtkhghkklekjdaaaDoor.jm Go.Proofs.YtkhghkklekjdaaaDoor.iter
open Go.Proofs.YtkhghkklekjdaaaDoor.frame (Nib)
open Go.Proofs.YtkhghkklekjdaaaDoor.sector (infoByte bv ba Dev DevAt strN Turn)
set_option linter.unusedVariables false
set_option linter.unusedSimpArgs false
attribute [local go_sem] Oper.semAt_some

/-- Where the bytes of a record's sector begin. -/
def offP (i : Nat) : Nat := if i = 0 then 0 else 47 + 55 * (i - 1)
/-- The head of a record's sector. -/
noncomputable def headP (num : Nat) (text : List Nat) (i : Nat) : List Nat := if i = 0 then 1 :: le 8 num ++ (le 4 text.length ++ le 4 (sumR num text)) else 2 :: le 8 num
theorem headP_len (num : Nat) (text : List Nat) (i : Nat) : (headP num text i).length = if i = 0 then 17 else 9 := by
  unfold headP; split <;> simp
theorem offP_succ (i : Nat) : offP (i + 1) = 47 + 55 * i := by unfold offP; rw [if_neg (Nat.succ_ne_zero i)]; simp
theorem offP_next (i : Nat) (num : Nat) (text : List Nat) : offP (i + 1) = offP i + (64 - (headP num text i).length) := by
  rw [headP_len, offP_succ]
  unfold offP
  by_cases h : i = 0
  · subst h; simp
  · simp only [h, if_false]; omega
theorem piece_of (num : Nat) (text : List Nat) (i : Nat) (n : Nat) (hn : n = min (text.drop (offP i)).length (64 - (headP num text i).length)) :
    headP num text i ++ (text.drop (offP i)).take n ++ List.replicate (64 - ((headP num text i).length + n)) 0 = pieceB num text i := by
  have e : (text.drop (offP i)).take n = (text.drop (offP i)).take (64 - (headP num text i).length) := by
    rw [hn]
    rcases Nat.le_total (text.drop (offP i)).length (64 - (headP num text i).length) with h | h
    · rw [Nat.min_eq_left h, List.take_length, List.take_of_length_le h]
    · rw [Nat.min_eq_right h]
  have hl : ((text.drop (offP i)).take (64 - (headP num text i).length)).length = n := by rw [List.length_take, hn, Nat.min_comm]
  rw [e]
  unfold pieceB
  by_cases hi : i = 0
  · subst hi
    have h17 := headP_len num text 0
    simp only [if_true] at h17
    rw [h17] at hl ⊢
    simp only [if_true, fillTo, offP, List.drop_zero] at hl ⊢
    have : headP num text 0 = 1 :: le 8 num ++ (le 4 text.length ++ le 4 (sumR num text)) := rfl
    rw [this]
    simp only [List.cons_append, List.append_assoc, List.length_cons, List.length_append, le_len]
    rw [show 64 - 17 = 47 from rfl] at hl ⊢
    rw [hl]
    rw [show 64 - (8 + (4 + (4 + n)) + 1) = 64 - (17 + n) by omega]
  · have h9 := headP_len num text i
    simp only [hi, if_false] at h9
    rw [h9] at hl ⊢
    simp only [hi, if_false, fillTo, offP] at hl ⊢
    have : headP num text i = 2 :: le 8 num := by unfold headP; rw [if_neg hi]
    rw [this]
    simp only [List.cons_append, List.append_assoc, List.length_cons, List.length_append, le_len]
    rw [show 64 - 9 = 55 from rfl] at hl ⊢
    rw [hl]
    rw [show 64 - (8 + n + 1) = 64 - (9 + n) by omega]
theorem off_end (text : List Nat) (i : Nat) : text.drop (offP (i + 1)) = [] ↔ need text.length ≤ i + 1 := by
  rw [List.drop_eq_nil_iff, offP_succ]
  unfold need
  by_cases h : text.length ≤ 47
  · rw [if_pos h]; omega
  · rw [if_neg h]; omega
theorem need_off (text : List Nat) (i : Nat) (h : i < need text.length) : offP i ≤ text.length := by
  unfold need at h
  unfold offP
  split at h <;> split <;> omega

theorem put8 (x : Nat) (hx : x < 18446744073709551616) (B : Nat) (v : Value) (ns : List Nat) (w : World) (hown : OwnI w B 5 .u8 v ns) (hB : B ≤ w.heap.size) (hlen : ns.length ≤ 1000000000000) :
    Calls Tryd.prog 62 #[v, .int .u64 (x : Int), .int .i64 8] w (Lays w B (ns ++ le 8 x)) := putLow_any x 8 hx (by decide) B v ns w hown hB hlen
theorem put4 (x : Nat) (hx : x < 18446744073709551616) (B : Nat) (v : Value) (ns : List Nat) (w : World) (hown : OwnI w B 5 .u8 v ns) (hB : B ≤ w.heap.size) (hlen : ns.length ≤ 1000000000000) :
    Calls Tryd.prog 62 #[v, .int .u64 (x : Int), .int .i64 4] w (Lays w B (ns ++ le 4 x)) := putLow_any x 4 hx (by decide) B v ns w hown hB hlen

set_option maxHeartbeats 8000000 in
set_option maxRecDepth 100000 in
theorem laid1_any (l bn br : Nat) (num : Nat) (text : List Nat) (I : Nat → World → Prop) (X : Nat → World → Prop)
    (hnum : num < 9223372036854775808) (h8 : ∀ x ∈ text, x < 256) (hlen : text.length ≤ 1000000) (hne : bn ≠ br)
    (hnib : ∀ i W, I i W → Nib W)
    (hbox : ∀ i W, I i W → W.heap[bn]? = some (.cells #[.int .i64 (num : Int)] 2 (0, 0)) ∧ W.heap[br]? = some (.cells #[.string (strN (text.drop (offP i)))] 9 (0, 0)))
    (hyield : ∀ i Wy W v (h : i < need text.length), I i Wy → Turn (fun k => k = br) Wy W → W.heap[br]? = some (.cells #[.string (strN (text.drop (offP (i + 1))))] 9 (0, 0)) → OwnI W Wy.heap.size 5 .u8 v (pieceB num text i) →
      YieldAt Fence.wide 0 Tryd.prog l #[v] W fun e W' => (e = .returned (.bool true) ∧ I (i + 1) W') ∨ (e = .returned (.bool false) ∧ X i W'))
    (W : World) (h0 : I 0 W) :
    CallsIn Fence.wide 0 Tryd.prog 67 #[.func (.yield l) #[] #[], .pointer (some ⟨bn, 0, none⟩), .pointer (some ⟨br, 0, none⟩)] W fun e W' => (∃ v, e = .returned v) ∧ (I (need text.length) W' ∨ ∃ i, i < need text.length ∧ X i W') := by
  obtain ⟨b1, b2⟩ := hbox 0 W h0
  have c1 := box_cell b1
  have c2 := box_cell b2
  have HBox := Lib.hid hbox; have HY := Lib.hid hyield; have HI0 := Lib.hid h0; have HNib := Lib.hid hnib; have H8 := Lib.hid h8; have HLn := Lib.hid hlen; have HNm := Lib.hid hnum; have HNe := Lib.hid hne
  clear hbox hyield hnib h8 hlen hnum b1 b2 hne
  refine callsIn_of_wp Tryd.func67 rfl trivial ?_ rfl
  simp only [Tryd.ntmps67, List.size_toArray, List.length_cons, List.length_nil, Nat.reduceAdd, Nat.reduceSub, Array.replicate_succ, Array.replicate_zero, List.push_toArray, List.append_toArray, List.nil_append, List.cons_append]
  have HC : Hid (∀ u : World, (∀ k, k < W.heap.size → u.heap[k]? = W.heap[k]?) → u.cell? ⟨bn, 0, none⟩ = some (.int .i64 (num : Int)) ∧ u.cell? ⟨br, 0, none⟩ = some (.string (strN text))) := Lib.hid fun u hu =>
    ⟨(World.cell?_of_block (a := ⟨bn, 0, none⟩) (hu bn (cell_lt c1))).trans c1, (World.cell?_of_block (a := ⟨br, 0, none⟩) (hu br (cell_lt c2))).trans c2⟩
  have HA := Lib.hid ((Below.refl W.heap.size W).alloc (Nat.le_refl _) (.cells #[.int .u8 1] 5))
  obtain ⟨k1, k2⟩ := HC.out _ HA.out.block
  have HO0 : Hid (OwnI (W.alloc (.cells #[.int .u8 1] 5)) W.heap.size 5 .u8 (.slice (some ⟨W.heap.size, 0, none⟩) 1 1) [1]) := Lib.hid (own_built W 5 .u8 [1] W.heap.size rfl #[.int .u8 1] rfl W.heap.size (Nat.le_refl _) (by simp [maxLen]))
  have HSz : Hid ((strN text).size = text.length) := Lib.hid (strN_size text)
  clear c1 c2
  have e1 : True → IntKind.u64.wrap (num : Int) = (num : Int) := fun _ => by have := HNm.out; simp [IntKind.wrap, IntKind.bits, IntKind.signed]; omega
  have e2 : True → ((strN text).size : Int) = (text.length : Int) := fun _ => by rw [HSz.out]
  have e3 : True → IntKind.u64.wrap (text.length : Int) = (text.length : Int) := fun _ => by have := HLn.out; simp [IntKind.wrap, IntKind.bits, IntKind.signed]; omega
  have HP1 := Lib.hid (put8 num (by have := HNm.out; omega) W.heap.size _ [1] _ HO0.out HA.out.size (by simp))
  gi_wp2
  refine ⟨trivial, rfl, ?_⟩
  refine (callsIn_wide.2 HP1.out).mono ?_
  rintro e w1 ⟨⟨v1, rfl, ho1⟩, hk1⟩
  have HK1 := Lib.hid ((Kept.of_below (e := 5) (Nat.le_refl _) HA.out).trans hk1); have HO1 := Lib.hid ho1
  obtain ⟨q1, q2⟩ := HC.out _ HK1.out.below
  clear ho1 hk1 k1 k2 HP1
  gi_wp2
  have HP2 := Lib.hid (put4 text.length (by have := HLn.out; omega) W.heap.size v1 _ w1 HO1.out HK1.out.size (by simp))
  refine ⟨trivial, rfl, ?_⟩
  refine (callsIn_wide.2 HP2.out).mono ?_
  rintro e w2 ⟨⟨v2, rfl, ho2⟩, hk2⟩
  have HK2 := Lib.hid (HK1.out.trans hk2); have HO2 := Lib.hid ho2
  obtain ⟨q3, q4⟩ := HC.out _ HK2.out.below
  obtain ⟨v3, w3, hcv, hs3, hn3, hb3⟩ := conv_str (P := Tryd.prog) w2 9 5 22 Tryd.underlying9 Tryd.underlying5 Tryd.underlying22 (strN text) (by have := HLn.out; have := HSz.out; omega)
  rw [byN_strN text H8.out] at hs3
  have HS3 := Lib.hid hs3; have HN3 := Lib.hid hn3; have HB3 := Lib.hid hb3
  clear ho2 hk2 q1 q2 HP2 hs3 hn3 hb3
  gi_wp2
  have HK3 := Lib.hid (HK2.out.trans (Kept.of_below (e := 5) HK2.out.size HB3.out))
  have HSm := Lib.hid (sumOf_any num HNm.out v3 text w3 HS3.out H8.out HN3.out (by have := HLn.out; omega) ((HNib.out 0 W HI0.out).keep ⟨HK3.out.os, HK3.out.tape, HK3.out.output, HK3.out.size, HK3.out.below⟩))
  refine ⟨trivial, rfl, ?_⟩
  refine (callsIn_wide.2 HSm.out).mono ?_
  rintro e w4 ⟨rfl, hb4⟩
  have HO4 := Lib.hid ((HO2.out.below HB3.out).below hb4)
  have HK4 := Lib.hid (HK3.out.trans (Kept.of_below (e := 5) HK3.out.size hb4))
  have hsl := sumR_lt num text (fun l => fm.crc_lt l)
  have HSl := Lib.hid hsl
  have HHd : Hid ([1] ++ le 8 num ++ le 4 text.length ++ le 4 (sumR num text) = headP num text 0) := Lib.hid (by unfold headP; simp)
  generalize sumR num text = sm at hsl HSl HHd ⊢
  have e4 : True → IntKind.u64.wrap (sm : Int) = (sm : Int) := fun _ => by simp [IntKind.wrap, IntKind.bits, IntKind.signed]; omega
  clear hb4 q3 q4 hcv hsl
  gi_wp2
  have HP4 := Lib.hid (put4 sm (by have := HSl.out; omega) W.heap.size v2 _ w4 HO4.out HK4.out.size (by simp))
  refine ⟨trivial, rfl, ?_⟩
  refine (callsIn_wide.2 HP4.out).mono ?_
  rintro e w5 ⟨⟨v5, rfl, ho5⟩, hk5⟩
  rw [HHd.out] at ho5
  have HK5 := Lib.hid (HK4.out.trans hk5); have HO5 := Lib.hid ho5
  clear ho5 hk5 HP4 HO4 HK4 HSm e4
  gi_wp2
  have hnp := need_pos text.length
  clear HO2 HO1 HK1 HK2 HK3 HB3 HS3 HN3 HO0 HA HSz e2 e3 HHd HSl
  gi_loopw [4] (fun v wr => ∃ (k : Nat) (Wy : World), k < need text.length ∧ I k Wy ∧ Turn (fun k => k = br) Wy wr ∧ wr.heap[br]? = some (.cells #[.string (strN (text.drop (offP k)))] 9 (0, 0)) ∧ OwnI wr Wy.heap.size 5 .u8 v (headP num text k)) (fun _ wr => match wr.cell? ⟨br, 0, none⟩ with | some (.string s) => s.size | _ => 0)
  case atStart =>
    have hb := (HBox.out 0 W HI0.out).2
    exact ⟨0, W, by omega, HI0.out, ⟨HK5.out.os, HK5.out.tape, HK5.out.output, HK5.out.size, fun j hj _ => HK5.out.below j hj⟩, (HK5.out.below br (Array.getElem?_eq_some_iff.1 hb).1).trans hb, HO5.out⟩
  case round =>
    obtain ⟨k, Wy, hk, hi, htu, hbr, ho⟩ := hrel
    obtain ⟨hbn, hbr0⟩ := HBox.out k Wy hi
    have hltr : br < Wy.heap.size := (Array.getElem?_eq_some_iff.1 hbr0).1
    have hltn : bn < Wy.heap.size := (Array.getElem?_eq_some_iff.1 hbn).1
    have hbn2 := (htu.block bn hltn HNe.out).trans hbn
    have hpos : 0 < (headP num text k).length := by rw [headP_len]; split <;> omega
    obtain ⟨g, cap, rfl⟩ : ∃ g cap, u4 = .slice (some ⟨g, 0, none⟩) (headP num text k).length cap := by
      rcases ho.2 with ⟨_, h0⟩ | ⟨g, cap, cur, rfl, _⟩
      · omega
      · exact ⟨g, cap, rfl⟩
    have hL64 : (headP num text k).length ≤ 17 := by rw [headP_len]; split <;> omega
    obtain ⟨n, hn⟩ : ∃ n, n = min (text.drop (offP k)).length (64 - (headP num text k).length) := ⟨_, rfl⟩
    have hpc := piece_of num text k n hn
    have hoff := offP_next k num text
    have hno := need_off text k hk
    have hdl : (text.drop (offP k)).length = text.length - offP k := List.length_drop ..
    have hdn : (text.drop (offP k)).drop n = text.drop (offP (k + 1)) := by
      rw [List.drop_drop, hoff]
      rcases Nat.le_total (text.drop (offP k)).length (64 - (headP num text k).length) with h | h
      · rw [Nat.min_eq_left h] at hn
        rw [List.drop_eq_nil_of_le (by omega), List.drop_eq_nil_of_le (by omega)]
      · rw [Nat.min_eq_right h] at hn
        rw [hn]
    have h8d : ∀ x ∈ text.drop (offP k), x < 256 := fun x hx => H8.out x (List.mem_of_mem_drop hx)
    obtain ⟨tx, htx⟩ : ∃ tx, text.drop (offP k) = tx := ⟨_, rfl⟩
    have hend := off_end text k
    have hndm : k + 1 < need text.length → offP (k + 1) < text.length := fun h => by
      have := offP_succ k
      unfold need at h
      split at h <;> omega
    rw [htx] at hn hpc hdn h8d hdl hbr
    have hsz := strN_size tx
    have hta := strN_take tx n
    have htd := strN_drop tx n tx.length (Nat.le_refl _)
    rw [hdn] at htd
    obtain ⟨s, hs⟩ : ∃ s, strN tx = s := ⟨_, rfl⟩
    obtain ⟨sa, hsa⟩ : ∃ s, strN (tx.take n) = s := ⟨_, rfl⟩
    obtain ⟨sb, hsb⟩ : ∃ s, strN (text.drop (offP (k + 1))) = s := ⟨_, rfl⟩
    have HSa : Hid (byN sa = tx.take n) := Lib.hid (by rw [← hsa]; exact byN_strN _ fun x hx => h8d x (List.mem_of_mem_take hx))
    rw [hs] at hsz hta htd hbr
    rw [hsa] at hta
    rw [hsb] at htd
    obtain ⟨R, hR⟩ : ∃ R, tx.length = R := ⟨_, rfl⟩
    obtain ⟨L, hL⟩ : ∃ L, (headP num text k).length = L := ⟨_, rfl⟩
    have HL := Lib.hid hL; have HR := Lib.hid hR
    rw [hR] at hsz hn htd hdl
    rw [hL] at hn hpc hpos hL64 ho ⊢
    have htd' : s.extract n s.size = sb := by rw [hsz]; exact htd
    have HPc := Lib.hid hpc; have HO := Lib.hid ho; have HTu := Lib.hid htu; have HI := Lib.hid hi; have HBr := Lib.hid hbr; have HBn := Lib.hid hbn2
    have HSb := Lib.hid hsb; have HEnd := Lib.hid hend; have HNd := Lib.hid hndm; have HSz := Lib.hid hsz; have HDl := Lib.hid hdl; have HLr := Lib.hid hltr; have HLl := Lib.hid hltn
    have hRb : R ≤ 1000000 := by have := HLn.out; omega
    have hnR : n ≤ R := by omega
    have hLn : L + n ≤ 64 := by omega
    have HLn2 := Lib.hid hLn; have HRb := Lib.hid hRb
    have c1 := box_cell hbr
    have k1 : True → (s.size : Int) = (R : Int) := fun _ => by rw [hsz]
    have k2 : True → wrap64 (64 - (L : Int)) = ((64 - L : Nat) : Int) := fun _ => by unfold wrap64; omega
    have k2' : True → IntKind.i64.wrap (64 - (L : Int)) = ((64 - L : Nat) : Int) := fun _ => by rw [IntKind.wrap_i64]; omega
    have k3 : True → (if 64 - L < R then ((64 - L : Nat) : Int) else (R : Int)) = (n : Int) := fun _ => by split <;> omega
    have hn0 : (0 : Int) ≤ n := by omega
    have hnRi : (n : Int) ≤ (R : Int) := by omega
    obtain ⟨M, hM⟩ : ∃ M, L + n = M := ⟨_, rfl⟩
    have HM := Lib.hid hM
    have hM64 : M ≤ 64 := by omega
    have k4 : True → wrap64 (64 - (M : Int)) = ((64 - M : Nat) : Int) := fun _ => by unfold wrap64; omega
    have k4' : True → IntKind.i64.wrap (64 - (M : Int)) = ((64 - M : Nat) : Int) := fun _ => by rw [IntKind.wrap_i64]; omega
    have hzz : M + (64 - M) = 64 := by omega
    have HZ := Lib.hid hzz
    have HMp : Hid (0 < M) := Lib.hid (by omega)
    rw [hM] at hpc
    replace HPc := Lib.hid hpc
    generalize 64 - M = z at k4 k4' HZ HPc
    generalize 64 - L = q at k2 k2' k3
    clear hM hM64 hzz
    clear hn hpc hpos hL64 ho htu hi hbn hbr0 hbn2 hbr hoff hno hdl hdn h8d hend hndm hltr hltn hs hsa hsb hR hL htx hRb
    gi_wp2_with (first
      | (gi_at_builtin; refine appStr_in rfl (.tmp 28) (.tmp 31) 22 9 rfl Wy.heap.size 5 Tryd.underlying22 Tryd.underlying9 infoByte _ (headP num text k) rfl HO.out sa (tx.take n) HSa.out rfl (by have := HL.out; have := HRb.out; have := HR.out; rw [List.length_take]; omega) HTu.out.size ?_; intro v6 w6 ho6 hk6; obtain ⟨g6, cap6, rfl⟩ := sector.own_form ho6 M (by have := HM.out; have := HL.out; have := HR.out; rw [List.length_append, List.length_take]; omega) HMp.out; have HO6 := Lib.hid ho6; have HK6 := Lib.hid hk6; have c2 := box_cell ((hk6.below br HLr.out).trans HBr.out); have f2 := box_frozen ((hk6.below br HLr.out).trans HBr.out); have HO66 := Lib.hid (own_set_box ho6 ((hk6.below br HLr.out).trans HBr.out) (by decide) 0 (.string sb)); clear ho6 hk6 c1)
      | (gi_at_builtin; refine app0_in rfl (.tmp 36) (.tmp 39) 22 3 rfl Wy.heap.size 5 .i64 .i64 Tryd.underlying22 Tryd.underlying3 infoByte g6 M cap6 (headP num text k ++ tx.take n) rfl (by have := HM.out; have := HL.out; have := HR.out; rw [List.length_append, List.length_take]; omega) HO66.out z _ rfl rfl (by have := HZ.out; omega) (by have := HTu.out.size; have := HK6.out.size; simp; omega) ?_; intro v7 w7 ho7 hk7; rw [HPc.out] at ho7; obtain ⟨g7, cap7, rfl⟩ := sector.own_form ho7 64 (pieceB_len ..) (by decide); have htu7 : Turn (fun k => k = br) Wy w7 := ⟨hk7.os.trans (HK6.out.os.trans HTu.out.os), hk7.tape.trans (HK6.out.tape.trans HTu.out.tape), hk7.output.trans (HK6.out.output.trans HTu.out.output), Nat.le_trans HTu.out.size (Nat.le_trans HK6.out.size (by have := hk7.size; simpa using this)), fun j hj hn => (hk7.below j hj).trans ((heap_setCell_other w6 ⟨br, 0, none⟩ j _ hn).trans ((HK6.out.below j hj).trans (HTu.out.block j hj hn)))⟩; have hbr7 : w7.heap[br]? = some (.cells #[.string sb] 9 (0, 0)) := (hk7.below br HLr.out).trans (by simpa using heap_setCell_same w6 br 0 _ _ (.string sb) ((HK6.out.below br HLr.out).trans HBr.out)); have HBr7 := Lib.hid hbr7; rw [← HSb.out] at hbr7; obtain ⟨fn, tmps, asg, bdy, hy, hYr⟩ := HY.out k Wy w7 _ hk HI.out htu7 hbr7 ho7; have HYr := Lib.hid hYr; clear ho7 hk7 htu7 hbr7 hYr c2 f2))
    refine ⟨rfl, HYr.out.mono ?_⟩
    rintro e W9 (⟨rfl, hI⟩ | ⟨rfl, hX⟩)
    case inr =>
      have HX := Lib.hid hX
      clear hX hy
      gi_wp2
      refine bodyPost_ret (results_none rfl _ _ _) rfl ?_
      exact ⟨⟨_, rfl⟩, .inr ⟨k, hk, HX.out⟩⟩
    have HI9 := Lib.hid hI
    obtain ⟨hbn9, hbr9⟩ := HBox.out _ _ hI
    rw [HSb.out] at hbr9
    have c9 := box_cell hbr9
    have d9 := box_cell hbn9
    by_cases hlast : need text.length ≤ k + 1
    · have hke : k + 1 = need text.length := by omega
      have hsb0 : sb = { data := #[] } := by rw [← HSb.out, HEnd.out.2 hlast]; rfl
      subst hsb0
      rw [hke] at HI9
      clear hI hy hlast hke
      gi_wp2
      refine bodyPost_ret (results_none rfl _ _ _) rfl ?_
      exact ⟨⟨_, rfl⟩, .inl HI9.out⟩
    · have hne : text.drop (offP (k + 1)) ≠ [] := fun h => hlast (HEnd.out.1 h)
      have s1 : True → sb.toList.isEmpty = false := fun _ => by
        rw [← HSb.out]
        unfold strN
        rw [Lib.strOfNums_toList]
        cases hd : text.drop (offP (k + 1)) with
        | nil => exact absurd hd hne
        | cons x xs => rfl
      have HA9 := Lib.hid ((Below.refl W9.heap.size W9).alloc (Nat.le_refl _) (.cells #[.int .u8 2] 5))
      have d9' : (W9.alloc (.cells #[.int .u8 2] 5)).cell? ⟨bn, 0, none⟩ = some (.int .i64 (num : Int)) := (HA9.out.cell (p := ⟨bn, 0, none⟩) (cell_lt d9)).trans d9
      have HO9 : Hid (OwnI (W9.alloc (.cells #[.int .u8 2] 5)) W9.heap.size 5 .u8 (.slice (some ⟨W9.heap.size, 0, none⟩) 1 1) [2]) := Lib.hid (own_built W9 5 .u8 [2] W9.heap.size rfl #[.int .u8 2] rfl W9.heap.size (Nat.le_refl _) (by simp [maxLen]))
      have HP9 := Lib.hid (put8 num (by have := HNm.out; omega) W9.heap.size _ [2] _ HO9.out HA9.out.size (by simp))
      have HBr9 := Lib.hid hbr9
      have HL9 := Lib.hid (show k + 1 < need text.length by omega)
      clear hI hy hlast hne hbn9 hbr9
      gi_wp2
      refine ⟨trivial, rfl, ?_⟩
      refine (callsIn_wide.2 HP9.out).mono ?_
      rintro e w10 ⟨⟨v10, rfl, ho10⟩, hk10⟩
      have hhd : [2] ++ le 8 num = headP num text (k + 1) := by unfold headP; rw [if_neg (Nat.succ_ne_zero k)]; rfl
      rw [hhd] at ho10
      have HK10 := Lib.hid ((Kept.of_below (e := 5) (Nat.le_refl _) HA9.out).trans hk10)
      have HO10 := Lib.hid ho10
      have HBr10 := Lib.hid ((HK10.out.below br (Array.getElem?_eq_some_iff.1 HBr9.out).1).trans HBr9.out)
      clear ho10 hk10 c9 d9 d9' hhd
      gi_wp2
      go_roundw
      case rel =>
        refine ⟨k + 1, W9, HL9.out, HI9.out, ⟨HK10.out.os, HK10.out.tape, HK10.out.output, HK10.out.size, fun j hj _ => HK10.out.below j hj⟩, ?_, HO10.out⟩
        rw [HSb.out]
        exact HBr10.out
      case measure =>
        have h1 := box_cell HBr10.out
        have h2 := box_cell HBr.out
        rw [h1, h2]
        have h3 : sb.size = text.length - offP (k + 1) := by rw [← HSb.out, strN_size, List.length_drop]
        have h4 := HNd.out HL9.out
        have h5 := HDl.out
        have h6 := HSz.out
        have h7 := offP_next k num text
        have h8 := headP_len num text k
        simp only
        split at h8 <;> omega

end Go.Proofs.YtkhghkklekjdaaaDoor.journal
