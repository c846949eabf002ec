/- Texts laid together: JournalRApp, JournalTexts, JournalRApp2. -/
import Derived.Test.YtkhghkklekjdaaaDoorRows
import Derived.Test.YtkhghkklekjdaaaDoorJournalRGet
import Derived.Test.YtkhghkklekjdaaaDoorJournalRLaid
import Derived.Test.YtkhghkklekjdaaaDoorJournalROpen
import Derived.Test.YtkhghkklekjdaaaDoorJournalApp
import Derived.BigQuiet
import Derived.Test.YtkhghkklekjdaaaDoorJournalText
import Derived.Test.YtkhghkklekjdaaaDoorJournalDev
import Derived.Deep.RegionHeld3
namespace Go.Proofs.YtkhghkklekjdaaaDoor.journal
open Go.RowKit
open Go.Proofs.YtkhghkklekjdaaaDoor.kit Go.Proofs.YtkhghkklekjdaaaDoor.own Go.Proofs.YtkhghkklekjdaaaDoor.jm Go.Proofs.YtkhghkklekjdaaaDoor.iter
open Go.Proofs.YtkhghkklekjdaaaDoor.sector (Dev RAt RDoes rCells strN PickOk wErr wDev fErr fDev Turn More Byt rWrite_all rFlush_all)
set_option linter.unusedVariables false

set_option maxRecDepth 100000 in
theorem rNext_any (w : World) (K r f n a num : Nat) (bad : Bool) (hj : RJ w K r f n a num bad) : Calls Tryd.prog 25 #[.pointer (some ⟨K, 0, none⟩)] w fun e w' => e = .returned (.int .i64 (num : Nat)) ∧ w = w' := by
  obtain ⟨j0, j1, j2, j3, j4, j5⟩ := hj.cells
  clear hj
  go_enter Tryd.func25, Tryd.ntmps25
  go_wp2
  go_ret
  exact ⟨rfl, rfl⟩
set_option maxRecDepth 100000 in
theorem rRestart_any (w : World) (K r f n a num : Nat) (bad : Bool) (hj : RJ w K r f n a num bad) : Calls Tryd.prog 17 #[.pointer (some ⟨K, 0, none⟩)] w fun e w' => e = .returned (.tuple #[]) ∧ w' = w.setCell ⟨K, 3, none⟩ (.int .i64 0) := by
  obtain ⟨j0, j1, j2, j3, j4, j5⟩ := hj.cells
  have f3 := hj.free 3
  clear hj
  go_enter Tryd.func17, Tryd.ntmps17
  go_wp2
  refine bodyPost_end (results_none rfl _ _ _) rfl ?_
  exact ⟨rfl, rfl⟩
/-- The document's Room is the program's. -/
theorem room_eq (f n a num : Nat) (ha : a ≤ n) : roomV (f + n) (f + a) num = if n ≤ a ∨ maxNum < num then -1 else 47 + ((n : Int) - (a : Int) - 1) * 55 := by
  unfold roomV leftV maxNum
  by_cases h1 : 4611686018427387904 < num
  · rw [if_pos h1, if_pos (show (0 : Nat) < 1 by omega), if_pos (Or.inr h1)]
  · rw [if_neg h1]
    by_cases h2 : n ≤ a
    · rw [if_pos (by omega), if_pos (Or.inl h2)]
    · rw [if_neg (by omega), if_neg (by omega)]
      omega
theorem drewN2 (w : World) (a b : Nat) : (w.drewN a).drewN b = w.drewN (a + b) := by simp [World.drewN, Nat.add_assoc]
set_option maxHeartbeats 4000000 in
set_option maxRecDepth 100000 in
theorem rRoom_any (w : World) (K r f n a num : Nat) (bad : Bool) (hj : RJ w K r f n a num bad) (ha : a ≤ n) (hn : n ≤ 4096) :
    Calls Tryd.prog 27 #[.pointer (some ⟨K, 0, none⟩)] w fun e w' => e = .returned (.int .i64 (roomV (f + n) (f + a) num)) ∧ ∃ q, w' = w.drewN q := by
  obtain ⟨j0, j1, j2, j3, j4, j5⟩ := hj.cells
  rw [room_eq f n a num ha]
  clear hj
  by_cases h1 : n ≤ a
  · rw [if_pos (.inl h1)]
    have h1' : ¬ (a : Int) < (n : Int) := by omega
    have h1'' : (n : Int) ≤ (a : Int) := by omega
    have d1 : True → decide ((n : Int) ≤ (a : Int)) = true := fun _ => by rw [decide_eq_true_eq]; omega
    clear h1 ha hn
    go_enter Tryd.func27, Tryd.ntmps27
    go_wp2_with fail
    go_quiet (fail)
    go_wp2
    go_ret
    exact ⟨rfl, _, rfl⟩
  · by_cases h2 : maxNum < num
    · rw [if_pos (.inr h2)]
      have d1 : True → decide ((n : Int) ≤ (a : Int)) = false := fun _ => by rw [decide_eq_false_iff_not]; omega
      have d2 : True → ((4611686018427387904 : Int) < (num : Int)) = True := fun _ => by unfold maxNum at h2; exact eq_true (by omega)
      have d1n : True → decide (n ≤ a) = false := fun _ => decide_eq_false h1
      clear h1 h2 ha hn
      go_enter Tryd.func27, Tryd.ntmps27
      go_wp2_with fail
      go_quiet (fail)
      go_wp2
      go_ret
      exact ⟨rfl, _, rfl⟩
    · rw [if_neg (by omega)]
      have d1 : True → decide ((n : Int) ≤ (a : Int)) = false := fun _ => by rw [decide_eq_false_iff_not]; omega
      have d2 : True → decide ((4611686018427387904 : Int) < (num : Int)) = false := fun _ => by rw [decide_eq_false_iff_not]; unfold maxNum at h2; omega
      obtain ⟨x, hx⟩ : ∃ x : Int, (n : Int) - (a : Int) = x := ⟨_, rfl⟩
      obtain ⟨y, hy⟩ : ∃ y : Int, x - 1 = y := ⟨_, rfl⟩
      obtain ⟨z, hz⟩ : ∃ z : Int, y * 55 = z := ⟨_, rfl⟩
      obtain ⟨u, hu⟩ : ∃ u : Int, 47 + z = u := ⟨_, rfl⟩
      rw [hx, hy, hz, hu]
      have e1 : True → wrap64 ((n : Int) - (a : Int)) = x := fun _ => by unfold wrap64; omega
      have e2 : True → wrap64 (x - 1) = y := fun _ => by unfold wrap64; omega
      have e3 : True → wrap64 (y * 55) = z := fun _ => by unfold wrap64; omega
      have E4 := Lib.hid (show wrap64 (47 + z) = u by unfold wrap64; omega)
      clear h1 h2 ha hn hx hy hz hu
      generalize (n : Int) = ni at *
      generalize (a : Int) = ai at *
      go_enter Tryd.func27, Tryd.ntmps27
      go_wp2_with fail
      go_quiet (fail)
      go_wp2_with fail
      go_quiet (fail)
      go_wp2
      go_ret
      exact ⟨by simp [E4.out], _, drewN2 _ _ _⟩

end Go.Proofs.YtkhghkklekjdaaaDoor.journal

namespace Go.Proofs.YtkhghkklekjdaaaDoor.journal
open Go.RowKit
open Go.Proofs.YtkhghkklekjdaaaDoor.kit Go.Proofs.YtkhghkklekjdaaaDoor.own
set_option linter.unusedVariables false
set_option linter.unusedSimpArgs false

/-- A slice of texts that lies in the world. -/
def SlT (w : World) (v : Value) (ss : List ByteArray) : Prop := ss.length ≤ maxLen ∧ ∃ a cap, v = .slice a ss.length cap ∧ (0 < ss.length → ∃ b off, a = some ⟨b, off, none⟩ ∧ b < w.heap.size ∧ ∀ j (h : j < ss.length), w.cell? ⟨b, off + j, none⟩ = some (.string ss[j]))
theorem SlT.keep {w w' : World} {v : Value} {ss : List ByteArray} (h : SlT w v ss) (hb : Below w.heap.size w w') : SlT w' v ss := by
  obtain ⟨hl, a, cap, e, hc⟩ := h
  refine ⟨hl, a, cap, e, fun h0 => ?_⟩
  obtain ⟨b, off, e2, hbl, hcell⟩ := hc h0
  exact ⟨b, off, e2, Nat.lt_of_lt_of_le hbl hb.size, fun j hj => (hb.cell (p := ⟨b, _, none⟩) hbl).trans (hcell j hj)⟩
theorem SlT.nil (w : World) (c : Nat) : SlT w (.slice none 0 c) [] := ⟨Nat.zero_le _, none, c, rfl, fun h => absurd h (by simp)⟩
theorem OwnT.sl {w : World} {B : Nat} {v : Value} {ss : List ByteArray} (h : OwnT w B v ss) (hl : ss.length ≤ maxLen) : SlT w v ss := by
  have h' := h
  unfold OwnT World.ownsRow at h
  rcases h.2 with ⟨h1, h2⟩ | ⟨g, cap, cur, h1, _⟩
  · have : ss = [] := List.length_eq_zero_iff.1 (by omega)
    subst this
    rw [h1]; exact SlT.nil w 0
  · refine ⟨hl, _, cap, h1, fun h0 => ⟨g, 0, rfl, ?_, fun j hj => ?_⟩⟩
    · obtain ⟨cur2, hc⟩ := sector.own_type h' (g := g) (by rw [h1]; rfl)
      exact (Array.getElem?_eq_some_iff.1 hc).1
    · have := World.ownsRow.cells h' (g := g) (by rw [h1]; rfl) j (.string ss[j]) (by rw [List.getElem?_map, List.getElem?_eq_getElem hj]; rfl)
      have e : ((⟨g, 0, none⟩ : Addr).add j) = ⟨g, j, none⟩ := by
        by_cases h0 : j = 0
        · subst h0; rfl
        · simp [Addr.add, h0]
      rw [e] at this
      rw [Nat.zero_add]
      exact this

theorem toList_bytes (x : ByteArray) : x.toList = x.data.toList := ByteArray.toList_eq x
theorem text_ne {x y : ByteArray} (h : ¬ x = y) : (x.toList == y.toList) = false := by
  rw [beq_eq_false_iff_ne]
  intro e
  rw [toList_bytes, toList_bytes] at e
  exact h (ByteArray.ext (Array.toList_inj.1 e))

set_option maxHeartbeats 4000000 in
set_option maxRecDepth 100000 in
theorem texts_any (v1 v2 : Value) (xs ys : List ByteArray) (w : World) (h1 : SlT w v1 xs) (h2 : SlT w v2 ys) :
    Calls Tryd.prog 13 #[v1, v2] w fun e w' => e = .returned (.bool (decide (xs = ys))) ∧ Below w.heap.size w w' := by
  have HS1 := Lib.hid h1; have HS2 := Lib.hid h2
  obtain ⟨hl1, a1, cap1, rfl, hc1⟩ := h1
  obtain ⟨hl2, a2, cap2, rfl, hc2⟩ := h2
  by_cases hne : xs.length = ys.length
  case neg =>
    have hd : decide (xs = ys) = false := by simp; intro h; exact hne (by rw [h])
    rw [hd]
    have hn' : ¬ ((xs.length : Nat) : Int) = ((ys.length : Nat) : Int) := by omega
    clear hc1 hc2 hl1 hl2 hd hne HS1 HS2
    generalize ((xs.length : Nat)) = l1 at hn' ⊢
    generalize ((ys.length : Nat)) = l2 at hn' ⊢
    go_enter Tryd.func13, Tryd.ntmps13
    go_wp2
    go_ret
    exact ⟨rfl, Below.refl _ _⟩
  obtain ⟨L, hL⟩ : ∃ L, xs.length = L := ⟨_, rfl⟩
  have hL2 : ys.length = L := by omega
  have HL := Lib.hid hL; have HL2 := Lib.hid hL2
  rw [hL, hL2]
  have hLm : L ≤ maxLen := by omega
  have HLm := Lib.hid hLm
  clear hl1 hl2 hc1 hc2 hne hL hL2 hLm
  go_enter Tryd.func13, Tryd.ntmps13
  go_wp2
  go_loopw [13] (fun i wr => ∃ k : Nat, k ≤ L ∧ i = .int .i64 k ∧ xs.take k = ys.take k ∧ Below w.heap.size w wr) (fun i _ => L - (intOf i).toNat)
  case atStart => exact ⟨0, by omega, rfl, rfl, Below.refl _ _⟩
  case round =>
    obtain ⟨k, hk, rfl, heq, hb⟩ := hrel
    have HB := Lib.hid hb; have HE := Lib.hid heq
    clear hb heq
    by_cases hlt : k < L
    · have hlt' : (k : Int) < L := by omega
      have hk0 : (0 : Int) ≤ k := by omega
      have hkm : (k : Int) < 9223372036854775807 := by have := HLm.out; unfold maxLen at this; omega
      have hi1 : k < xs.length := by rw [HL.out]; exact hlt
      have hi2 : k < ys.length := by rw [HL2.out]; exact hlt
      obtain ⟨_, a', cap', he, hcell⟩ := HS1.out.keep HB.out
      rw [HL.out] at he
      cases he
      obtain ⟨b, off, rfl, hbl, hcell⟩ := hcell (by omega)
      have c1 := hcell k hi1
      clear hcell
      obtain ⟨_, a', cap', he, hcell⟩ := HS2.out.keep HB.out
      rw [HL2.out] at he
      cases he
      obtain ⟨b2, off2, rfl, hbl2, hcell⟩ := hcell (by omega)
      have d1 := hcell k hi2
      clear hcell hbl hbl2
      have ht1 : xs.take (k + 1) = xs.take k ++ [xs[k]] := List.take_succ_eq_append_getElem hi1
      have ht2 : ys.take (k + 1) = ys.take k ++ [ys[k]] := List.take_succ_eq_append_getElem hi2
      have hdf : xs[k] ≠ ys[k] → decide (xs = ys) = false := fun h => by
        rw [decide_eq_false_iff_not]
        intro e
        subst e
        exact h rfl
      obtain ⟨x, hx⟩ : ∃ x, xs[k] = x := ⟨_, rfl⟩
      obtain ⟨y, hy⟩ : ∃ y, ys[k] = y := ⟨_, rfl⟩
      rw [hx] at c1 ht1 hdf
      rw [hy] at d1 ht2 hdf
      have HT1 := Lib.hid ht1; have HT2 := Lib.hid ht2; have HDf := Lib.hid hdf
      clear hx hy ht1 ht2 hdf hi1 hi2
      by_cases hxy : x = y
      · subst hxy
        go_upto_region 6 with fail
        go_quiet (fail)
        have HBn := Lib.hid (HB.out.drewN' nq)
        clear c1 d1
        go_wp2
        go_roundw
        case rel => exact ⟨k + 1, by omega, by go_num, by rw [HT1.out, HT2.out, HE.out], HBn.out⟩
        case measure => simp [intOf]; omega
      · have HXy := Lib.hid (HDf.out hxy)
        have HXl := Lib.hid (text_ne hxy)
        clear hxy
        go_upto_region 6 with fail
        go_quiet (fail)
        have HBn := Lib.hid (HB.out.drewN' nq)
        clear c1 d1
        rw [HXl.out, Bool.not_false]
        clear HDf HXl HT1 HT2 HE
        go_upto_region 7 with fail
        go_wp2
        go_ret
        exact ⟨by rw [HXy.out]; rfl, HBn.out⟩
    · obtain rfl : k = L := by omega
      have hd : decide (xs = ys) = true := by
        have := HE.out
        rw [List.take_of_length_le (by rw [HL.out]; omega), List.take_of_length_le (by rw [HL2.out]; omega)] at this
        simpa using this
      have HD := Lib.hid hd
      clear hd
      go_wp2
      go_ret
      exact ⟨by rw [HD.out]; rfl, HB.out⟩

end Go.Proofs.YtkhghkklekjdaaaDoor.journal

namespace Go.Proofs.YtkhghkklekjdaaaDoor.journal
open Go.RowKit
open Go.Proofs.YtkhghkklekjdaaaDoor.kit Go.Proofs.YtkhghkklekjdaaaDoor.own Go.Proofs.YtkhghkklekjdaaaDoor.jm Go.Proofs.YtkhghkklekjdaaaDoor.iter
open Go.Proofs.YtkhghkklekjdaaaDoor.sector (Dev RAt RDoes rCells strN PickOk wErr wDev fErr fDev Turn More Byt rWrite_all rFlush_all wDev_more fDev_more str_bytes)
set_option linter.unusedVariables false

/-- '[]byte(s)' lies in a block of its own. -/
theorem str_new (w : World) (x : List Nat) (h8 : ∀ y ∈ x, y < 256) (hl : x.length ≤ 1000000) : ∃ c w', (convert 9 22 (.string (strN x))).run Tryd.prog w = .ok (.slice (some ⟨w.heap.size, 0, none⟩) x.length c) w' ∧ SlI w' .u8 (.slice (some ⟨w.heap.size, 0, none⟩) x.length c) x ∧ Below w.heap.size w w' ∧ w.heap.size < w'.heap.size := by
  obtain ⟨v', w', h1, ⟨b, c, rfl, _⟩, h3, h4⟩ := str_bytes w x h8 hl
  have hr := Lib.run_convert_string_bytes w 9 22 5 (strN x) Tryd.underlying9 Tryd.underlying22 Tryd.underlying5
  rw [hr] at h1
  injection h1 with h1 h2
  injection h1 with h5 h6 h7
  injection h5 with h5
  injection h5 with h5
  subst h5
  exact ⟨c, w', by rw [hr, ← h6, h7, h2], h3, h4, by rw [← h2, Lib.bytesWorld_size]; omega⟩

/-- The document's journal's own numbers as the program's. -/
def rJn (r f n a num : Nat) (bad : Bool) : Jn := ⟨r, f, f + n, f + a, num, bad⟩
def rAppS (w : World) (Y : Nat → Prop) (K r f n a num : Nat) (bad : Bool) (text : List Nat) (m : Dev) (e : Ending) (w' : World) : Prop :=
  e = .returned (.int .i64 (appendE (rJn r f n a num bad) text m)) ∧ RJ w' K r f n ((appendJ (rJn r f n a num bad) text m).at_ - f) (appendJ (rJn r f n a num bad) text m).next (appendJ (rJn r f n a num bad) text m).torn ∧ (∃ Y', RAt w' Y' r (appendM (rJn r f n a num bad) text m) ∧ (∀ k, Y' k → Y k ∨ (w.heap.size ≤ k ∧ k < w'.heap.size))) ∧ Turn (fun k => Y k ∨ k = K) w w' ∧ PickOk (appendM (rJn r f n a num bad) text m)

theorem rj_bad {w : World} {K r f n a num : Nat} {bad : Bool} (h : RJ w K r f n a num bad) : RJ (w.setCell ⟨K, 5, none⟩ (.bool true)) K r f n a num true := by
  unfold RJ at h ⊢
  simpa using heap_setCell_same w K 5 _ _ (.bool true) h
theorem rj_at {w : World} {K r f n a num : Nat} {bad : Bool} (h : RJ w K r f n a num bad) (a' : Nat) : RJ (w.setCell ⟨K, 3, none⟩ (.int .i64 (a' : Int))) K r f n a' num bad := by
  unfold RJ at h ⊢
  simpa using heap_setCell_same w K 3 _ _ (.int .i64 (a' : Int)) h
theorem rj_num {w : World} {K r f n a num : Nat} {bad : Bool} (h : RJ w K r f n a num bad) (n' : Nat) : RJ (w.setCell ⟨K, 4, none⟩ (.int .i64 (n' : Int))) K r f n a n' bad := by
  unfold RJ at h ⊢
  simpa using heap_setCell_same w K 4 _ _ (.int .i64 (n' : Int)) h
theorem turn_set {w w1 w4 : World} {Y : Nat → Prop} {K : Nat} (hb : Below w.heap.size w w1) (ht : Turn Y w1 w4) (o : Nat) (v : Value) : Turn (fun k => Y k ∨ k = K) w (w4.setCell ⟨K, o, none⟩ v) := by
  have hs := (Below.refl 0 w4).setCell (p := ⟨K, o, none⟩) (Nat.zero_le _) v
  refine ⟨hs.os.trans (ht.os.trans hb.os), hs.tape.trans (ht.tape.trans hb.tape), hs.output.trans (ht.output.trans hb.output), Nat.le_trans hb.size (Nat.le_trans ht.size hs.size), fun k hk hn => ?_⟩
  · have h1 : k ≠ K := fun e => hn (.inr e)
    exact (heap_setCell_other w4 ⟨K, o, none⟩ k v h1).trans ((ht.block k (Nat.lt_of_lt_of_le hk hb.size) (fun h => hn (.inl h))).trans (hb.block k hk))

theorem turn_set2 {w w4 : World} {Y : Nat → Prop} {K : Nat} (ht : Turn (fun k => Y k ∨ k = K) w w4) (o : Nat) (v : Value) : Turn (fun k => Y k ∨ k = K) w (w4.setCell ⟨K, o, none⟩ v) := by
  have hs := (Below.refl 0 w4).setCell (p := ⟨K, o, none⟩) (Nat.zero_le _) v
  refine ⟨hs.os.trans ht.os, hs.tape.trans ht.tape, hs.output.trans ht.output, Nat.le_trans ht.size hs.size, fun k hk hn => ?_⟩
  have h1 : k ≠ K := fun e => hn (.inr e)
  exact (heap_setCell_other w4 ⟨K, o, none⟩ k v h1).trans (ht.block k hk hn)

set_option maxHeartbeats 8000000 in
set_option maxRecDepth 100000 in
theorem rAppend_any (w : World) (Y : Nat → Prop) (K r f n a num : Nat) (bad : Bool) (m : Dev) (text : List Nat) (hj : RJ w K r f n a num bad) (hr : RAt w Y r m) (hpk : PickOk m) (hyk : ¬ Y K)
    (h8 : ∀ x ∈ text, x < 256) (hlen : text.length ≤ 9223372036854775807) (han : a ≤ n) (hfn : f + n ≤ m.n) (hws : m.ws + 2000000 < 4611686018427387904) (hfs : m.fs + 2000000 < 4611686018427387904) :
    Calls Tryd.prog 15 #[.pointer (some ⟨K, 0, none⟩), .string (strN text)] w (rAppS w Y K r f n a num bad text m) := by
  obtain ⟨k0, k1, k2, k3, k4, k5⟩ := hj.cells
  have base : ∀ q, RJ (w.drewN q) K r f n (f + a - f) num bad ∧ (∃ Y', RAt (w.drewN q) Y' r m ∧ (∀ k, Y' k → Y k ∨ (w.heap.size ≤ k ∧ k < (w.drewN q).heap.size))) ∧ Turn (fun k => Y k ∨ k = K) w (w.drewN q) ∧ PickOk m := fun q =>
    ⟨by rw [Nat.add_sub_cancel_left]; exact hj, ⟨Y, hr.stays (fun _ _ => rfl) (Nat.le_refl _), fun k hk => .inl hk⟩, ⟨rfl, rfl, rfl, Nat.le_refl _, fun _ _ _ => rfl⟩, hpk⟩
  have hdev : w.cell? ⟨r, 3, none⟩ = some (.bool (!m.power)) := by
    obtain ⟨_, vd, vc, pk, hl⟩ := hr
    have := hl.cell 3
    simpa [rCells] using this
  by_cases hno : bad = true ∨ m.power = false
  · have HP : Hid (rAppS w Y K r f n a num bad text m (.returned (.int .i64 22)) w) := Lib.hid (by
      have hno' : (rJn r f n a num bad).torn = true ∨ m.power = false := hno
      unfold rAppS appendE appendJ appendM
      rw [if_pos hno', if_pos hno', if_pos hno']
      exact ⟨rfl, base 0⟩)
    clear base hj hr hpk hyk h8 hlen han hfn hws hfs
    cases bad with
    | true =>
      clear hno
      go_enter Tryd.func15, Tryd.ntmps15
      go_wp2
      go_ret
      exact HP.out
    | false =>
      have hpw : m.power = false := by simpa using hno
      rw [hpw] at hdev
      clear hno hpw
      go_enter Tryd.func15, Tryd.ntmps15
      go_wp2
      go_ret
      exact HP.out
  obtain rfl : bad = false := by cases bad <;> simp at hno ⊢
  have hpw : m.power = true := by simpa using hno
  rw [hpw] at hdev
  have hno' : ¬ ((rJn r f n a num false).torn = true ∨ m.power = false) := hno
  have hsz := strN_size text
  have HNe : Hid (∀ u, Calls Tryd.prog 29 #[.int .i64 ((text.length : Nat) : Int)] u fun e w' => e = .returned (.int .i64 (need text.length : Nat)) ∧ u = w') := Lib.hid fun u => by
    have := rNeed_any (text.length : Int) u (by omega) (by omega)
    rw [Int.toNat_natCast] at this
    exact this
  have hnl := need_le text.length
  have hmn := hr.1.n
  have hnd9 : need text.length ≤ 200000000000000000 + 300000 := by
    unfold need; split <;> omega
  obtain ⟨ND, hND⟩ : ∃ k, need text.length = k := ⟨_, rfl⟩
  rw [hND] at HNe hnl hnd9
  by_cases hful : leftV (f + n) (f + a) num < ND
  · have HP : Hid (∀ q, rAppS w Y K r f n a num false text m (.returned (.int .i64 21)) (w.drewN q)) := Lib.hid (fun q => by
      have hful' : leftV (rJn r f n a num false).end_ (rJn r f n a num false).at_ (rJn r f n a num false).next < need text.length := by rw [hND]; exact hful
      unfold rAppS appendE appendJ appendM
      rw [if_neg hno', if_neg hno', if_neg hno', if_pos hful', if_pos hful', if_pos hful']
      exact ⟨rfl, base q⟩)
    have e1 : True → wrap64 ((a : Int) + (ND : Int)) = (a : Int) + (ND : Int) := fun _ => by unfold wrap64; omega
    by_cases hfn2 : n < a + ND
    · have g1 : (n : Int) < (a : Int) + (ND : Int) := by omega
      have g2 : ¬ (a : Int) + (ND : Int) ≤ (n : Int) := by omega
      have g3 : True → decide ((n : Int) < (a : Int) + (ND : Int)) = true := fun _ => by rw [decide_eq_true_eq]; omega
      clear base hj hr hpk hyk h8 hlen han hfn hws hfs hno hno' hful hND hnl hmn hfn2 hnd9 hpw
      obtain ⟨s, hs⟩ : ∃ s, strN text = s := ⟨_, rfl⟩
      rw [hs] at hsz ⊢
      go_enter Tryd.func15, Tryd.ntmps15
      go_wp2_with fail
      go_quiet ((go_at_call 29; exact Calls.quiet_of_same ((HNe.out _).mono fun _ _ hh => ⟨hh.1, hh.2.symm⟩)))
      go_wp2
      go_ret
      exact HP.out _
    · have hnm : maxNum < num := by
        unfold leftV at hful
        unfold maxNum
        split at hful
        · assumption
        · omega
      have g3 : True → decide ((n : Int) < (a : Int) + (ND : Int)) = false := fun _ => by rw [decide_eq_false_iff_not]; omega
      have d2 : True → ((4611686018427387904 : Int) < (num : Int)) = True := fun _ => by unfold maxNum at hnm; exact eq_true (by omega)
      clear base hj hr hpk hyk h8 hlen han hfn hws hfs hno hno' hful hND hnl hmn hfn2 hnd9 hpw hnm
      obtain ⟨s, hs⟩ : ∃ s, strN text = s := ⟨_, rfl⟩
      rw [hs] at hsz ⊢
      go_enter Tryd.func15, Tryd.ntmps15
      go_wp2_with fail
      go_quiet ((go_at_call 29; exact Calls.quiet_of_same ((HNe.out _).mono fun _ _ hh => ⟨hh.1, hh.2.symm⟩)))
      go_wp2
      go_ret
      exact HP.out _
  have hnp := need_pos text.length
  rw [hND] at hnp
  have hA : a + ND ≤ n ∧ num ≤ maxNum := by
    unfold leftV at hful
    unfold maxNum
    split at hful <;> omega
  have htl : text.length ≤ 300000 := by
    have := need_ge text.length
    rw [hND] at this
    omega
  obtain ⟨⟨mr, br⟩, hAD⟩ : ∃ p, appD num text (f + a) m = p := ⟨_, rfl⟩
  have HSp : Hid (∀ w9, RJ w9 K r f n (if br then a + ND else a) (if br then num + 1 else num) (!br) → (∃ Y', RAt w9 Y' r mr ∧ ∀ k, Y' k → Y k ∨ (w.heap.size ≤ k ∧ k < w9.heap.size)) → Turn (fun k => Y k ∨ k = K) w w9 → PickOk mr →
      rAppS w Y K r f n a num false text m (.returned (.int .i64 (if br then 0 else 22))) w9) := Lib.hid (fun w9 g1 g2 g3 g4 => by
    have hful' : ¬ leftV (rJn r f n a num false).end_ (rJn r f n a num false).at_ (rJn r f n a num false).next < need text.length := by rw [hND]; exact hful
    have hAD' : appD (rJn r f n a num false).next text (rJn r f n a num false).at_ m = (mr, br) := hAD
    unfold rAppS appendE appendJ appendM
    rw [if_neg hno', if_neg hno', if_neg hno', if_neg hful', if_neg hful', if_neg hful', hAD', hND]
    cases br with
    | true =>
      refine ⟨rfl, ?_, g2, g3, g4⟩
      have : (rJn r f n a num false).at_ + ND - f = a + ND := by show f + a + ND - f = a + ND; omega
      simp only [if_true] at g1 ⊢
      rw [this]
      exact g1
    | false =>
      refine ⟨rfl, ?_, g2, g3, g4⟩
      have : (rJn r f n a num false).at_ - f = a := by show f + a - f = a; omega
      simp only [if_false, Bool.false_eq_true] at g1 ⊢
      rw [this]
      exact g1)
  have HR := Lib.hid hr; have HJ := Lib.hid hj; have HPk := Lib.hid hpk; have HYk := Lib.hid hyk; have H8 := Lib.hid h8; have HA := Lib.hid hA; have HFn := Lib.hid hfn; have HWs := Lib.hid hws; have HFs := Lib.hid hfs; have HMn := Lib.hid hmn; have HNd := Lib.hid hND; have HNp := Lib.hid hnp
  have HPc := Lib.hid (fun u => rpieces_any u num text h8 hA.2 htl)
  have HGo := Lib.hid (show appGo num text (f + a) ND 0 m = (mr, br) by rw [← hND]; exact hAD)
  have e1 : True → wrap64 ((a : Int) + (ND : Int)) = (a : Int) + (ND : Int) := fun _ => by unfold wrap64; omega
  have g3 : True → decide ((n : Int) < (a : Int) + (ND : Int)) = false := fun _ => by rw [decide_eq_false_iff_not]; omega
  have d2 : True → decide ((4611686018427387904 : Int) < (num : Int)) = false := fun _ => by have := hA.2; unfold maxNum at this; rw [decide_eq_false_iff_not]; omega
  have HEn := Lib.hid (show wrap64 ((num : Int) + 1) = ((num + 1 : Nat) : Int) by have := hA.2; unfold maxNum at this; unfold wrap64; omega)
  have HEa := Lib.hid (show wrap64 ((a : Int) + (ND : Int)) = ((a + ND : Nat) : Int) by unfold wrap64; omega)
  clear base hj hr hpk hyk h8 hlen han hfn hws hfs hno hno' hful hND hnl hmn hnd9 hpw hA htl hAD hnp
  obtain ⟨s, hs⟩ : ∃ s, strN text = s := ⟨_, rfl⟩
  rw [hs] at hsz HPc ⊢
  go_enter Tryd.func15, Tryd.ntmps15
  go_wp2_with fail
  go_quiet ((go_at_call 29; exact Calls.quiet_of_same ((HNe.out _).mono fun _ _ hh => ⟨hh.1, hh.2.symm⟩)))
  have hjd : RJ (w.drewN nq) K r f n a num false := HJ.out
  obtain ⟨k0, k1, k2, k3, k4, k5⟩ := hjd.cells
  clear hjd e1 g3 d2
  go_wp2_with fail
  refine (HPc.out (w.drewN nq)).mono ?_
  rintro e w1 ⟨⟨v, rfl, hown⟩, hb1⟩
  have HOw := Lib.hid (show OwnT w1 w.heap.size v ((List.range ND).map fun i => strN (pieceB num text i)) by rw [← HNd.out]; exact hown)
  have HB1 := Lib.hid (show Below w.heap.size w w1 from ⟨hb1.os, hb1.tape, hb1.output, hb1.size, hb1.block⟩)
  have hlr : ((List.range ND).map fun i => strN (pieceB num text i)).length = ND := by simp
  have hND4 : ND ≤ 4096 := by have := HA.out; have := HFn.out; have := HMn.out; omega
  obtain ⟨_, av, cv, rfl, hcell⟩ := HOw.out.sl (by rw [hlr]; unfold maxLen; omega)
  rw [hlr]
  obtain ⟨lb, lo, rfl, hlb, hlc⟩ := hcell (by rw [hlr]; exact HNp.out)
  have hyl : ¬ Y lb := fun h => by
    have h1 := HR.out.lt _ h
    have h2 := (World.ownsRow.lt HOw.out lb rfl).1
    omega
  have HLc := Lib.hid (show ∀ i, i < ND → w1.cell? ⟨lb, lo + i, none⟩ = some (.string (strN (pieceB num text i))) from fun i hi => by
    have := hlc i (by rw [hlr]; exact hi)
    rw [this]
    simp)
  have HYl := Lib.hid hyl; have HLb := Lib.hid hlb; have HN4 := Lib.hid hND4
  have HJ1 := Lib.hid (HJ.out.keep HB1.out)
  have HR1 := Lib.hid (HR.out.keep HB1.out)
  have hK1 : K < w1.heap.size := Nat.lt_of_lt_of_le HJ.out.lt HB1.out.size
  have HK1 := Lib.hid hK1
  clear hown hb1 hcell hlc hyl hlb hND4 hlr hK1
  go_wp2_with fail
  clear k0 k1 k2 k3 k4 k5
  have hN4 := HN4.out
  go_loopw [6] (fun vi W => ∃ (i : Nat) (mi : Dev) (Y' : Nat → Prop), i ≤ ND ∧ vi = .int .i64 i ∧ appGo num text (f + a) (ND - i) i mi = (mr, br) ∧ RJ W K r f n a num false ∧ RAt W Y' r mi ∧ (∀ k, Y' k → Y k ∨ (w1.heap.size ≤ k ∧ k < W.heap.size)) ∧ Turn Y w1 W ∧ PickOk mi ∧ mi.ws ≤ m.ws + i ∧ mi.fs ≤ m.fs + i ∧ mi.n = m.n) (fun vi _ => ND - (intOf vi).toNat)
  case atStart => exact ⟨0, m, Y, Nat.zero_le _, rfl, HGo.out, HJ1.out, HR1.out, fun k hk => .inl hk, Turn.refl _ _, HPk.out, Nat.le_refl _, Nat.le_refl _, rfl⟩
  case round =>
    obtain ⟨i, mi, Y', hi, rfl, hgo, hj, hr, hy, ht, hpk, hws, hfs, hmn⟩ := hrel
    have HG := Lib.hid hgo; have HJw := Lib.hid hj; have HRw := Lib.hid hr; have HYy := Lib.hid hy; have HT := Lib.hid ht; have HPi := Lib.hid hpk; have HWi := Lib.hid hws; have HFi := Lib.hid hfs; have HMi := Lib.hid hmn
    obtain ⟨k0, k1, k2, k3, k4, k5⟩ := hj.cells
    clear hgo hj hr hy ht hpk hws hfs hmn
    by_cases hin : i < ND
    · have hinI : (i : Int) < (ND : Int) := by omega
      have hi0 : (0 : Int) ≤ (i : Int) := by omega
      have HIn := Lib.hid hin
      have hx8 := pieceB_lt num text i H8.out
      have hxl := pieceB_len num text i
      obtain ⟨cc, wc, hcv, hsl, hbc, hbs⟩ := str_new wr.drew (pieceB num text i) hx8 (by rw [hxl]; omega)
      rw [hxl] at hcv hsl
      have cl : wr.cell? ⟨lb, lo + i, none⟩ = some (.string (strN (pieceB num text i))) := by
        have h1 := HLc.out i hin
        have h2 := HT.out.block lb HLb.out HYl.out
        simpa [World.cell?, h2] using h1
      have HBc := Lib.hid (show Below wr.heap.size wr wc from (drewBelow wr).trans hbc)
      have c0 := (HBc.out.cell (p := ⟨K, 0, none⟩) (cell_lt k0)).trans k0
      have c1 := (HBc.out.cell (p := ⟨K, 1, none⟩) (cell_lt k1)).trans k1
      have c3 := (HBc.out.cell (p := ⟨K, 3, none⟩) (cell_lt k3)).trans k3
      have cl2 := (HBc.out.cell (p := ⟨lb, lo + i, none⟩) (cell_lt cl)).trans cl
      have HSl := Lib.hid hsl; have HX8 := Lib.hid hx8; have HXl := Lib.hid hxl
      have hbb : wr.drew.heap.size = wr.heap.size := rfl
      have HWr := Lib.hid (rWrite_all wc Y' r mi (HRw.out.keep HBc.out) HPi.out ((f + a + i : Nat) : Int) (.slice (some ⟨wr.heap.size, 0, none⟩) 64 cc) (pieceB num text i)
        ⟨HSl.out, HX8.out, fun b off n c e h => (by cases e; exact hbs), fun n c e => (by cases e)⟩ (by have := HWi.out; have := HWs.out; have := HN4.out; omega)
        (fun b off n c e h hz => by cases e; have := HRw.out.lt _ hz; omega))
      have hez1 : IntKind.i64.wrap ((f : Int) + (a : Int)) = ((f + a : Nat) : Int) := by have := HA.out; have := HFn.out; have := HMn.out; rw [IntKind.wrap_i64]; omega
      have hez2 : IntKind.i64.wrap (((f + a : Nat) : Int) + (i : Int)) = ((f + a + i : Nat) : Int) := by have := HA.out; have := HFn.out; have := HMn.out; rw [IntKind.wrap_i64]; omega
      have HEz := Lib.hid (show IntKind.i64.wrap (IntKind.i64.wrap ((f : Int) + (a : Int)) + (i : Int)) = ((f + a + i : Nat) : Int) by rw [hez1, hez2])
      clear hez1 hez2
      rw [hxl] at HWr
      obtain ⟨we, hwe⟩ : ∃ z, wErr mi ((f + a + i : Nat) : Int) 64 = z := ⟨_, rfl⟩
      obtain ⟨mw, hmw⟩ : ∃ z, wDev mi ((f + a + i : Nat) : Int) (pieceB num text i) = z := ⟨_, rfl⟩
      have HMw := Lib.hid (wDev_more mi ((f + a + i : Nat) : Int) (pieceB num text i) HPi.out)
      have HGs : Hid ((if we = 0 then appGo num text (f + a) (ND - (i + 1)) (i + 1) mw else (mw, false)) = (mr, br)) := Lib.hid (by
        have h := HG.out
        rw [show ND - i = (ND - (i + 1)) + 1 by omega, appGo, hwe, hmw] at h
        exact h)
      rw [hwe, hmw] at HWr
      rw [hmw] at HMw
      have HKy := Lib.hid (show ¬ Y' K from fun h => by
        rcases HYy.out K h with h | h
        · exact HYk.out h
        · have := HK1.out; omega)
      have HLy := Lib.hid (show ¬ Y' lb from fun h => by
        rcases HYy.out lb h with h | h
        · exact HYl.out h
        · have := HLb.out; omega)
      have HKc := Lib.hid (show K < wc.heap.size from Nat.lt_of_lt_of_le HJw.out.lt HBc.out.size)
      have HLcc := Lib.hid (show lb < wc.heap.size from Nat.lt_of_lt_of_le (cell_lt cl) HBc.out.size)
      clear hsl hbc hbs hx8 hxl hbb k2 k4 k5 hin hwe hmw
      go_upto_region 9 with fail
      --R9
      refine wp_region_held_drew (S := fun u => u.cell? ⟨K, 0, none⟩ = some (.pointer (some ⟨r, 0, none⟩)) ∧ u.cell? ⟨K, 1, none⟩ = some (.int .i64 (f : Int)) ∧ u.cell? ⟨K, 3, none⟩ = some (.int .i64 (a : Int)) ∧ u.cell? ⟨lb, lo + i, none⟩ = some (.string (strN (pieceB num text i)))) (by kernel_rfl) (⟨k0, k1, k3, cl⟩) (fun hHeld => ?_)
      refine wpAnyH_take (i := 0) (oi := { dst := some 59, op := Op.move (Operand.tmp 0), type := 34, pos := "ref.go:158", after := #[], guard := none }) (v := ?_) rfl (by kernel_rfl) (by kernel_rfl) (by kernel_rfl) (fun _ _ _ h => h) (Or.inl ⟨by rfl, ?_⟩) hHeld ?_
      rotate_left 1
      · intro W hSw
        obtain ⟨q0, q1, q2, q3⟩ := hSw
        go_simp
        try with_reducible rfl
      try simp only [Act.put, List.setIfInBounds_toArray, List.set_cons_zero, List.set_cons_succ]
      refine wpAnyH_take (i := 1) (oi := { dst := some 60, op := Op.nilCheck (Operand.tmp 59), type := 0, pos := "ref.go:158", after := #[{ on := 0, ground := Ground.data }], guard := none }) (v := ?_) rfl (by kernel_rfl) (by kernel_rfl) (by kernel_rfl) (fun _ _ _ h => h) (Or.inl ⟨by rfl, ?_⟩) hHeld ?_
      rotate_left 1
      · intro W hSw
        obtain ⟨q0, q1, q2, q3⟩ := hSw
        go_simp
        try with_reducible rfl
      try simp only [Act.put, List.setIfInBounds_toArray, List.set_cons_zero, List.set_cons_succ]
      refine wpAnyH_take (i := 2) (oi := { dst := some 61, op := Op.fieldAddr 81 (Operand.tmp 60) 0, type := 0, pos := "ref.go:158", after := #[{ on := 1, ground := Ground.data }], guard := none }) (v := ?_) rfl (by kernel_rfl) (by kernel_rfl) (by kernel_rfl) (fun _ _ _ h => h) (Or.inl ⟨by rfl, ?_⟩) hHeld ?_
      rotate_left 1
      · intro W hSw
        obtain ⟨q0, q1, q2, q3⟩ := hSw
        go_simp
        try with_reducible rfl
      try simp only [Act.put, List.setIfInBounds_toArray, List.set_cons_zero, List.set_cons_succ]
      refine wpAnyH_take (i := 3) (oi := { dst := some 62, op := Op.load 26 (Operand.tmp 61), type := 26, pos := "ref.go:158", after := #[{ on := 2, ground := Ground.data }], guard := none }) (v := ?_) rfl (by kernel_rfl) (by kernel_rfl) (by kernel_rfl) (fun _ _ _ h => h) (Or.inl ⟨by rfl, ?_⟩) hHeld ?_
      rotate_left 1
      · intro W hSw
        obtain ⟨q0, q1, q2, q3⟩ := hSw
        go_simp
        try with_reducible rfl
      try simp only [Act.put, List.setIfInBounds_toArray, List.set_cons_zero, List.set_cons_succ]
      refine wpAnyH_take (i := 4) (oi := { dst := some 63, op := Op.move (Operand.tmp 0), type := 34, pos := "ref.go:158", after := #[], guard := none }) (v := ?_) rfl (by kernel_rfl) (by kernel_rfl) (by kernel_rfl) (fun _ _ _ h => h) (Or.inl ⟨by rfl, ?_⟩) hHeld ?_
      rotate_left 1
      · intro W hSw
        obtain ⟨q0, q1, q2, q3⟩ := hSw
        go_simp
        try with_reducible rfl
      try simp only [Act.put, List.setIfInBounds_toArray, List.set_cons_zero, List.set_cons_succ]
      refine wpAnyH_take (i := 5) (oi := { dst := some 64, op := Op.nilCheck (Operand.tmp 63), type := 0, pos := "ref.go:158", after := #[{ on := 4, ground := Ground.data }], guard := none }) (v := ?_) rfl (by kernel_rfl) (by kernel_rfl) (by kernel_rfl) (fun _ _ _ h => h) (Or.inl ⟨by rfl, ?_⟩) hHeld ?_
      rotate_left 1
      · intro W hSw
        obtain ⟨q0, q1, q2, q3⟩ := hSw
        go_simp
        try with_reducible rfl
      try simp only [Act.put, List.setIfInBounds_toArray, List.set_cons_zero, List.set_cons_succ]
      refine wpAnyH_take (i := 6) (oi := { dst := some 65, op := Op.fieldAddr 81 (Operand.tmp 64) 1, type := 0, pos := "ref.go:158", after := #[{ on := 5, ground := Ground.data }], guard := none }) (v := ?_) rfl (by kernel_rfl) (by kernel_rfl) (by kernel_rfl) (fun _ _ _ h => h) (Or.inl ⟨by rfl, ?_⟩) hHeld ?_
      rotate_left 1
      · intro W hSw
        obtain ⟨q0, q1, q2, q3⟩ := hSw
        go_simp
        try with_reducible rfl
      try simp only [Act.put, List.setIfInBounds_toArray, List.set_cons_zero, List.set_cons_succ]
      refine wpAnyH_take (i := 7) (oi := { dst := some 66, op := Op.load 3 (Operand.tmp 65), type := 3, pos := "ref.go:158", after := #[{ on := 6, ground := Ground.data }], guard := none }) (v := ?_) rfl (by kernel_rfl) (by kernel_rfl) (by kernel_rfl) (fun _ _ _ h => h) (Or.inl ⟨by rfl, ?_⟩) hHeld ?_
      rotate_left 1
      · intro W hSw
        obtain ⟨q0, q1, q2, q3⟩ := hSw
        go_simp
        try with_reducible rfl
      try simp only [Act.put, List.setIfInBounds_toArray, List.set_cons_zero, List.set_cons_succ]
      refine wpAnyH_take (i := 8) (oi := { dst := some 67, op := Op.move (Operand.tmp 0), type := 34, pos := "ref.go:158", after := #[], guard := none }) (v := ?_) rfl (by kernel_rfl) (by kernel_rfl) (by kernel_rfl) (fun _ _ _ h => h) (Or.inl ⟨by rfl, ?_⟩) hHeld ?_
      rotate_left 1
      · intro W hSw
        obtain ⟨q0, q1, q2, q3⟩ := hSw
        go_simp
        try with_reducible rfl
      try simp only [Act.put, List.setIfInBounds_toArray, List.set_cons_zero, List.set_cons_succ]
      refine wpAnyH_take (i := 9) (oi := { dst := some 68, op := Op.nilCheck (Operand.tmp 67), type := 0, pos := "ref.go:158", after := #[{ on := 8, ground := Ground.data }], guard := none }) (v := ?_) rfl (by kernel_rfl) (by kernel_rfl) (by kernel_rfl) (fun _ _ _ h => h) (Or.inl ⟨by rfl, ?_⟩) hHeld ?_
      rotate_left 1
      · intro W hSw
        obtain ⟨q0, q1, q2, q3⟩ := hSw
        go_simp
        try with_reducible rfl
      try simp only [Act.put, List.setIfInBounds_toArray, List.set_cons_zero, List.set_cons_succ]
      refine wpAnyH_take (i := 10) (oi := { dst := some 69, op := Op.fieldAddr 81 (Operand.tmp 68) 3, type := 0, pos := "ref.go:158", after := #[{ on := 9, ground := Ground.data }], guard := none }) (v := ?_) rfl (by kernel_rfl) (by kernel_rfl) (by kernel_rfl) (fun _ _ _ h => h) (Or.inl ⟨by rfl, ?_⟩) hHeld ?_
      rotate_left 1
      · intro W hSw
        obtain ⟨q0, q1, q2, q3⟩ := hSw
        go_simp
        try with_reducible rfl
      try simp only [Act.put, List.setIfInBounds_toArray, List.set_cons_zero, List.set_cons_succ]
      refine wpAnyH_take (i := 11) (oi := { dst := some 70, op := Op.load 3 (Operand.tmp 69), type := 3, pos := "ref.go:158", after := #[{ on := 10, ground := Ground.data }], guard := none }) (v := ?_) rfl (by kernel_rfl) (by kernel_rfl) (by kernel_rfl) (fun _ _ _ h => h) (Or.inl ⟨by rfl, ?_⟩) hHeld ?_
      rotate_left 1
      · intro W hSw
        obtain ⟨q0, q1, q2, q3⟩ := hSw
        go_simp
        try with_reducible rfl
      try simp only [Act.put, List.setIfInBounds_toArray, List.set_cons_zero, List.set_cons_succ]
      refine wpAnyH_take (i := 12) (oi := { dst := some 71, op := Op.binOp BinOp.add 3 (Operand.tmp 66) (Operand.tmp 70) 3, type := 3, pos := "ref.go:158", after := #[{ on := 7, ground := Ground.data }, { on := 11, ground := Ground.data }], guard := none }) (v := ?_) rfl (by kernel_rfl) (by kernel_rfl) (by kernel_rfl) (fun _ _ _ h => h) (Or.inl ⟨by rfl, ?_⟩) hHeld ?_
      rotate_left 1
      · intro W hSw
        obtain ⟨q0, q1, q2, q3⟩ := hSw
        go_simp
        try with_reducible rfl
      try simp only [Act.put, List.setIfInBounds_toArray, List.set_cons_zero, List.set_cons_succ]
      refine wpAnyH_take (i := 13) (oi := { dst := some 72, op := Op.move (Operand.tmp 6), type := 3, pos := "ref.go:158", after := #[], guard := none }) (v := ?_) rfl (by kernel_rfl) (by kernel_rfl) (by kernel_rfl) (fun _ _ _ h => h) (Or.inl ⟨by rfl, ?_⟩) hHeld ?_
      rotate_left 1
      · intro W hSw
        obtain ⟨q0, q1, q2, q3⟩ := hSw
        go_simp
        try with_reducible rfl
      try simp only [Act.put, List.setIfInBounds_toArray, List.set_cons_zero, List.set_cons_succ]
      refine wpAnyH_take (i := 14) (oi := { dst := some 73, op := Op.binOp BinOp.add 3 (Operand.tmp 71) (Operand.tmp 72) 3, type := 3, pos := "ref.go:158", after := #[{ on := 12, ground := Ground.data }, { on := 13, ground := Ground.data }], guard := none }) (v := ?_) rfl (by kernel_rfl) (by kernel_rfl) (by kernel_rfl) (fun _ _ _ h => h) (Or.inl ⟨by rfl, ?_⟩) hHeld ?_
      rotate_left 1
      · intro W hSw
        obtain ⟨q0, q1, q2, q3⟩ := hSw
        go_simp
        try with_reducible rfl
      try simp only [Act.put, List.setIfInBounds_toArray, List.set_cons_zero, List.set_cons_succ]
      refine wpAnyH_take (i := 15) (oi := { dst := some 74, op := Op.move (Operand.tmp 5), type := 30, pos := "ref.go:158", after := #[], guard := none }) (v := ?_) rfl (by kernel_rfl) (by kernel_rfl) (by kernel_rfl) (fun _ _ _ h => h) (Or.inl ⟨by rfl, ?_⟩) hHeld ?_
      rotate_left 1
      · intro W hSw
        obtain ⟨q0, q1, q2, q3⟩ := hSw
        go_simp
        try with_reducible rfl
      try simp only [Act.put, List.setIfInBounds_toArray, List.set_cons_zero, List.set_cons_succ]
      refine wpAnyH_take (i := 16) (oi := { dst := some 75, op := Op.move (Operand.tmp 6), type := 3, pos := "ref.go:158", after := #[], guard := none }) (v := ?_) rfl (by kernel_rfl) (by kernel_rfl) (by kernel_rfl) (fun _ _ _ h => h) (Or.inl ⟨by rfl, ?_⟩) hHeld ?_
      rotate_left 1
      · intro W hSw
        obtain ⟨q0, q1, q2, q3⟩ := hSw
        go_simp
        try with_reducible rfl
      try simp only [Act.put, List.setIfInBounds_toArray, List.set_cons_zero, List.set_cons_succ]
      refine wpAnyH_take (i := 17) (oi := { dst := some 76, op := Op.indexAddr 30 (Operand.tmp 74) (Operand.tmp 75), type := 0, pos := "ref.go:158", after := #[{ on := 15, ground := Ground.data }, { on := 16, ground := Ground.data }], guard := none }) (v := ?_) rfl (by kernel_rfl) (by kernel_rfl) (by kernel_rfl) (fun _ _ _ h => h) (Or.inl ⟨by rfl, ?_⟩) hHeld ?_
      rotate_left 1
      · intro W hSw
        obtain ⟨q0, q1, q2, q3⟩ := hSw
        go_simp
        try with_reducible rfl
      try simp only [Act.put, List.setIfInBounds_toArray, List.set_cons_zero, List.set_cons_succ]
      refine wpAnyH_take (i := 18) (oi := { dst := some 77, op := Op.load 9 (Operand.tmp 76), type := 9, pos := "ref.go:158", after := #[{ on := 17, ground := Ground.data }], guard := none }) (v := ?_) rfl (by kernel_rfl) (by kernel_rfl) (by kernel_rfl) (fun _ _ _ h => h) (Or.inl ⟨by rfl, ?_⟩) hHeld ?_
      rotate_left 1
      · intro W hSw
        obtain ⟨q0, q1, q2, q3⟩ := hSw
        go_simp
        try with_reducible rfl
      try simp only [Act.put, List.setIfInBounds_toArray, List.set_cons_zero, List.set_cons_succ]
      refine wpAnyH_ready (rs := [19]) (by kernel_rfl) (by simp) ?_
      refine AllReadyH.cons (o := { dst := some 78, op := Op.convert 9 22 (Operand.tmp 77), type := 22, pos := "ref.go:158", after := #[{ on := 18, ground := Ground.data }], guard := none }) rfl (fun KC hK => ?_) ?_
      · go_simp
        try dsimp only
        refine hK.out _ _ (⟨c0, c1, c3, cl2⟩) (fun hHeld => ?_)
        clear hK KC
        try simp only [Act.put, List.setIfInBounds_toArray, List.set_cons_zero, List.set_cons_succ]
        refine wpAnyH_ready (rs := [20]) (by kernel_rfl) (by simp) ?_
        refine AllReadyH.cons (o := { dst := some 79, op := Op.call { callee := Callee.value (Operand.func 44), args := #[Operand.tmp 62, Operand.tmp 73, Operand.tmp 78], argTypes := #[26, 3, 22] }, type := 3, pos := "ref.go:158", after := #[{ on := 3, ground := Ground.data }, { on := 14, ground := Ground.data }, { on := 19, ground := Ground.data }], guard := none }) rfl (fun KC hK => ?_) ?_
        · go_simp
          (try rw [HEz.out])
          with_reducible refine HWr.out.mono ?_
          rintro e w4 ⟨rfl, hr4, ht4⟩
          have g0 : w4.cell? ⟨K, 0, none⟩ = some (.pointer (some ⟨r, 0, none⟩)) := by rw [← c0]; simp only [World.cell?, ht4.block K HKc.out HKy.out]
          have g1 : w4.cell? ⟨K, 1, none⟩ = some (.int .i64 (f : Int)) := by rw [← c1]; simp only [World.cell?, ht4.block K HKc.out HKy.out]
          have g3 : w4.cell? ⟨K, 3, none⟩ = some (.int .i64 (a : Int)) := by rw [← c3]; simp only [World.cell?, ht4.block K HKc.out HKy.out]
          have gl : w4.cell? ⟨lb, lo + i, none⟩ = some (.string (strN (pieceB num text i))) := by rw [← cl2]; simp only [World.cell?, ht4.block lb HLcc.out HLy.out]
          have HR4 := Lib.hid hr4
          have HT4 := Lib.hid ht4
          clear hr4 ht4
          try dsimp only
          refine hK.out _ _ (⟨g0, g1, g3, gl⟩) (fun hHeld => ?_)
          clear hK KC
          try simp only [Act.put, List.setIfInBounds_toArray, List.set_cons_zero, List.set_cons_succ]
          refine wpAnyH_take (i := 21) (oi := { dst := some 80, op := Op.binOp BinOp.neq 3 (Operand.tmp 79) (Operand.const (Value.int IntKind.i64 0)) 3, type := 4, pos := "ref.go:158", after := #[{ on := 20, ground := Ground.data }], guard := none }) (v := ?_) rfl (by kernel_rfl) (by kernel_rfl) (by kernel_rfl) (fun _ _ _ h => h) (Or.inl ⟨by rfl, ?_⟩) hHeld ?_
          rotate_left 1
          · intro W hSw
            obtain ⟨q0, q1, q2, q3⟩ := hSw
            go_simp
            try with_reducible rfl
          try simp only [Act.put, List.setIfInBounds_toArray, List.set_cons_zero, List.set_cons_succ]
          refine wpAnyH_done (by kernel_rfl) ?_ _
          have HJ4 := Lib.hid (show RJ w4 K r f n a num false from (HT4.out.block K HKc.out HKy.out).trans (HJw.out.keep HBc.out))
          have HY4 := Lib.hid (show ∀ k, More Y' wc w4 k → Y k ∨ (w1.heap.size ≤ k ∧ k < w4.heap.size) from fun k hk => by
            have s1 := HT.out.size; have s2 := HBc.out.size; have s3 := HT4.out.size
            rcases hk with hk | hk
            · rcases HYy.out k hk with h | h
              · exact .inl h
              · exact .inr ⟨h.1, by omega⟩
            · exact .inr ⟨by omega, hk.2⟩)
          have HTw := Lib.hid (show Turn Y w1 w4 from ⟨HT4.out.os.trans (HBc.out.os.trans HT.out.os), HT4.out.tape.trans (HBc.out.tape.trans HT.out.tape), HT4.out.output.trans (HBc.out.output.trans HT.out.output), Nat.le_trans HT.out.size (Nat.le_trans HBc.out.size HT4.out.size), fun k hk hn => by
            have s1 := HT.out.size; have s2 := HBc.out.size
            have hny : ¬ Y' k := fun h => by
              rcases HYy.out k h with h | h
              · exact hn h
              · omega
            exact (HT4.out.block k (by omega) hny).trans ((HBc.out.block k (by omega)).trans (HT.out.block k hk hn))⟩)
          clear g0 g1 g3 gl c0 c1 c3 cl2 k0 k1 k3 cl hcv hHeld
          by_cases h0 : we = 0
          · subst h0
            have hgs := HGs.out
            rw [if_pos rfl] at hgs
            have HG2 := Lib.hid hgs
            clear hgs
            go_wp2_with fail
            go_roundw
            case rel => exact ⟨i + 1, mw, More Y' wc w4, by have := HIn.out; omega, by go_num, HG2.out, HJ4.out, HR4.out, HY4.out, HTw.out, HMw.out.1, by have := HMw.out.2.2.1; have := HWi.out; omega, by have := HMw.out.2.2.2; have := HFi.out; omega, HMw.out.2.1.trans HMi.out⟩
            case measure => have := HIn.out; simp [intOf]; omega
          · have hgs := HGs.out
            rw [if_neg h0] at hgs
            obtain ⟨rfl, rfl⟩ := Prod.mk.inj hgs
            have hb1 : (we != 0) = true := by simp [h0]
            rw [hb1]
            have HP9 := Lib.hid (HSp.out (w4.setCell ⟨K, 5, none⟩ (.bool true)) (rj_bad HJ4.out) ⟨More Y' wc w4, HR4.out.stays (fun k hk => heap_setCell_other w4 ⟨K, 5, none⟩ k _ (fun e => by
                have e2 : k = K := e
                subst e2
                rcases HY4.out _ hk with h | h
                · exact HYk.out h
                · have := HK1.out; omega)) (by rw [World.size_setCell]; exact Nat.le_refl _), fun k hk => by
                have s1 := HB1.out.size
                rcases HY4.out k hk with h | h
                · exact .inl h
                · exact .inr ⟨by omega, by rw [World.size_setCell]; exact h.2⟩⟩ (turn_set HB1.out HTw.out 5 (.bool true)) HMw.out.1)
            obtain ⟨j0, j1, j2, j3, j4, j5⟩ := HJ4.out.cells
            have f5 := HJ4.out.free 5
            clear hgs h0 hb1 j1 j2 j3 j4
            go_wp2_with fail
            go_ret
            exact HP9.out
        exact AllReadyH.nil
      exact AllReadyH.nil
      --R9E
    · obtain rfl : i = ND := by omega
      have HFl := Lib.hid (rFlush_all wr Y' r mi HRw.out (by have := HFi.out; have := HFs.out; have := HN4.out; omega))
      have hfm := fDev_more mi HPi.out
      have HFm := Lib.hid hfm
      have hgs := HG.out
      rw [Nat.sub_self, appGo] at hgs
      obtain ⟨hg1, hg2⟩ := Prod.mk.inj hgs
      have HKy := Lib.hid (show ¬ Y' K from fun h => by
        rcases HYy.out K h with h | h
        · exact HYk.out h
        · have := HK1.out; omega)
      obtain ⟨fe, hfe⟩ : ∃ z, fErr mi = z := ⟨_, rfl⟩
      rw [hfe] at HFl hg2
      rw [hg1] at HFl HFm
      have HG2 := Lib.hid hg2
      clear hfm hgs hg1 hg2 hfe hin k1 k2
      go_wp2_with fail
      refine HFl.out.mono ?_
      rintro e w4 ⟨rfl, hr4, ht4⟩
      have HR4 := Lib.hid hr4; have HT4 := Lib.hid ht4
      have HJ4 := Lib.hid (show RJ w4 K r f n a num false from (HT4.out.block K HJw.out.lt HKy.out).trans HJw.out)
      have HY4 := Lib.hid (show ∀ k, More Y' wr w4 k → Y k ∨ (w1.heap.size ≤ k ∧ k < w4.heap.size) from fun k hk => by
        have s1 := HT.out.size; have s3 := HT4.out.size
        rcases hk with hk | hk
        · rcases HYy.out k hk with h | h
          · exact .inl h
          · exact .inr ⟨h.1, by omega⟩
        · exact .inr ⟨by omega, hk.2⟩)
      have HTw := Lib.hid (show Turn Y w1 w4 from ⟨HT4.out.os.trans HT.out.os, HT4.out.tape.trans HT.out.tape, HT4.out.output.trans HT.out.output, Nat.le_trans HT.out.size HT4.out.size, fun k hk hn => by
        have s1 := HT.out.size
        have hny : ¬ Y' k := fun h => by
          rcases HYy.out k h with h | h
          · exact hn h
          · omega
        exact (HT4.out.block k (by omega) hny).trans (HT.out.block k hk hn)⟩)
      have HKn := Lib.hid (show ∀ k, More Y' wr w4 k → k ≠ K from fun k hk e2 => by
        subst e2
        rcases HY4.out _ hk with h | h
        · exact HYk.out h
        · have := HK1.out; omega)
      have HYl2 := Lib.hid (show ∀ k, More Y' wr w4 k → Y k ∨ (w.heap.size ≤ k ∧ k < w4.heap.size) from fun k hk => by
        have s1 := HB1.out.size
        rcases HY4.out k hk with h | h
        · exact .inl h
        · exact .inr ⟨by omega, h.2⟩)
      obtain ⟨j0, j1, j2, j3, j4, j5⟩ := HJ4.out.cells
      have f3 := HJ4.out.free 3
      have f4 := HJ4.out.free 4
      have f5 := HJ4.out.free 5
      clear hr4 ht4 k0 k3 k4 k5
      by_cases h0 : fe = 0
      · have hbr : br = true := by rw [← HG2.out, h0]; rfl
        subst hbr
        subst h0
        have HP9 := Lib.hid (HSp.out ((w4.setCell ⟨K, 3, none⟩ (.int .i64 ((a + i : Nat) : Int))).setCell ⟨K, 4, none⟩ (.int .i64 ((num + 1 : Nat) : Int))) (rj_num (rj_at HJ4.out (a + i)) (num + 1))
          ⟨More Y' wr w4, (HR4.out.stays (fun k hk => heap_setCell_other w4 ⟨K, 3, none⟩ k _ (HKn.out k hk)) (by rw [World.size_setCell]; exact Nat.le_refl _)).stays (fun k hk => heap_setCell_other _ ⟨K, 4, none⟩ k _ (HKn.out k hk)) (by simp),
            fun k hk => by rw [World.size_setCell, World.size_setCell]; exact HYl2.out k hk⟩
          (turn_set2 (turn_set HB1.out HTw.out 3 _) 4 _) HFm.out.1)
        have g4 : (w4.setCell ⟨K, 3, none⟩ (.int .i64 ((a + i : Nat) : Int))).cell? ⟨K, 4, none⟩ = some (.int .i64 (num : Int)) := (rj_at HJ4.out (a + i)).cells.2.2.2.2.1
        have g4f : (w4.setCell ⟨K, 3, none⟩ (.int .i64 ((a + i : Nat) : Int))).frozen? ⟨K, 4, none⟩ = false := (rj_at HJ4.out (a + i)).free 4
        have e1 : True → IntKind.i64.wrap ((a : Int) + (i : Int)) = ((a + i : Nat) : Int) := fun _ => by rw [IntKind.wrap_i64]; have := HA.out; have := HFn.out; have := HMn.out; omega
        have e2 : True → IntKind.i64.wrap ((num : Int) + 1) = ((num + 1 : Nat) : Int) := fun _ => by rw [IntKind.wrap_i64]; have := HA.out.2; unfold maxNum at this; omega
        clear j0 j1 j2 j5
        go_wp2_with fail
        go_ret
        exact HP9.out
      · have hbr : br = false := by rw [← HG2.out]; exact decide_eq_false h0
        subst hbr
        have hb1 : True → (fe != 0) = true := fun _ => by simp [h0]
        have HP9 := Lib.hid (HSp.out (w4.setCell ⟨K, 5, none⟩ (.bool true)) (rj_bad HJ4.out) ⟨More Y' wr w4, HR4.out.stays (fun k hk => heap_setCell_other w4 ⟨K, 5, none⟩ k _ (HKn.out k hk)) (by rw [World.size_setCell]; exact Nat.le_refl _), fun k hk => by
            rw [World.size_setCell]; exact HYl2.out k hk⟩ (turn_set HB1.out HTw.out 5 (.bool true)) HFm.out.1)
        clear h0 j1 j2 j3 j4
        go_wp2_with fail
        go_ret
        exact HP9.out

end Go.Proofs.YtkhghkklekjdaaaDoor.journal
