/- The law's own 'texts': two slices of texts, compared. -/
import Derived.Test.YtgdfdljgbogbnaaDoorRows
import Derived.Test.YtgdfdljgbogbnaaDoorJournalText
namespace Go.Proofs.YtgdfdljgbogbnaaDoor.journal
open Go.RowKit
open Go.Proofs.YtgdfdljgbogbnaaDoor.kit Go.Proofs.YtgdfdljgbogbnaaDoor.own
set_option linter.unusedVariables false
set_option linter.unusedSimpArgs false

/-- A slice of texts that lies in the world. -/
def SlT (w : World) (v : Value) (ss : List ByteArray) : Prop := ss.length ≤ maxLen ∧ ∃ a cap, v = .slice a ss.length cap ∧ (0 < ss.length → ∃ b off, a = some ⟨b, off, none⟩ ∧ b < w.heap.size ∧ ∀ j (h : j < ss.length), w.cell? ⟨b, off + j, none⟩ = some (.string ss[j]))
theorem SlT.keep {w w' : World} {v : Value} {ss : List ByteArray} (h : SlT w v ss) (hb : Below w.heap.size w w') : SlT w' v ss := by
  obtain ⟨hl, a, cap, e, hc⟩ := h
  refine ⟨hl, a, cap, e, fun h0 => ?_⟩
  obtain ⟨b, off, e2, hbl, hcell⟩ := hc h0
  exact ⟨b, off, e2, Nat.lt_of_lt_of_le hbl hb.size, fun j hj => (hb.cell (p := ⟨b, _, none⟩) hbl).trans (hcell j hj)⟩
theorem SlT.nil (w : World) (c : Nat) : SlT w (.slice none 0 c) [] := ⟨Nat.zero_le _, none, c, rfl, fun h => absurd h (by simp)⟩
theorem OwnT.sl {w : World} {B : Nat} {v : Value} {ss : List ByteArray} (h : OwnT w B v ss) (hl : ss.length ≤ maxLen) : SlT w v ss := by
  have h' := h
  unfold OwnT World.ownsRow at h
  rcases h.2 with ⟨h1, h2⟩ | ⟨g, cap, cur, h1, _⟩
  · have : ss = [] := List.length_eq_zero_iff.1 (by omega)
    subst this
    rw [h1]; exact SlT.nil w 0
  · refine ⟨hl, _, cap, h1, fun h0 => ⟨g, 0, rfl, ?_, fun j hj => ?_⟩⟩
    · obtain ⟨cur2, hc⟩ := sector.own_type h' (g := g) (by rw [h1]; rfl)
      exact (Array.getElem?_eq_some_iff.1 hc).1
    · have := World.ownsRow.cells h' (g := g) (by rw [h1]; rfl) j (.string ss[j]) (by rw [List.getElem?_map, List.getElem?_eq_getElem hj]; rfl)
      have e : ((⟨g, 0, none⟩ : Addr).add j) = ⟨g, j, none⟩ := by
        by_cases h0 : j = 0
        · subst h0; rfl
        · simp [Addr.add, h0]
      rw [e] at this
      rw [Nat.zero_add]
      exact this

theorem toList_bytes (x : ByteArray) : x.toList = x.data.toList := ByteArray.toList_eq x
theorem text_ne {x y : ByteArray} (h : ¬ x = y) : (x.toList == y.toList) = false := by
  rw [beq_eq_false_iff_ne]
  intro e
  rw [toList_bytes, toList_bytes] at e
  exact h (ByteArray.ext (Array.toList_inj.1 e))

set_option maxHeartbeats 4000000 in
set_option maxRecDepth 100000 in
theorem texts_any (v1 v2 : Value) (xs ys : List ByteArray) (w : World) (h1 : SlT w v1 xs) (h2 : SlT w v2 ys) :
    Calls Tryd.prog 13 #[v1, v2] w fun e w' => e = .returned (.bool (decide (xs = ys))) ∧ Below w.heap.size w w' := by
  have HS1 := Lib.hid h1; have HS2 := Lib.hid h2
  obtain ⟨hl1, a1, cap1, rfl, hc1⟩ := h1
  obtain ⟨hl2, a2, cap2, rfl, hc2⟩ := h2
  by_cases hne : xs.length = ys.length
  case neg =>
    have hd : decide (xs = ys) = false := by simp; intro h; exact hne (by rw [h])
    rw [hd]
    have hn' : ¬ ((xs.length : Nat) : Int) = ((ys.length : Nat) : Int) := by omega
    clear hc1 hc2 hl1 hl2 hd hne HS1 HS2
    generalize ((xs.length : Nat)) = l1 at hn' ⊢
    generalize ((ys.length : Nat)) = l2 at hn' ⊢
    go_enter Tryd.func13, Tryd.ntmps13
    go_wp2
    go_ret
    exact ⟨rfl, Below.refl _ _⟩
  obtain ⟨L, hL⟩ : ∃ L, xs.length = L := ⟨_, rfl⟩
  have hL2 : ys.length = L := by omega
  have HL := Lib.hid hL; have HL2 := Lib.hid hL2
  rw [hL, hL2]
  have hLm : L ≤ maxLen := by omega
  have HLm := Lib.hid hLm
  clear hl1 hl2 hc1 hc2 hne hL hL2 hLm
  go_enter Tryd.func13, Tryd.ntmps13
  go_wp2
  go_loopw [13] (fun i wr => ∃ k : Nat, k ≤ L ∧ i = .int .i64 k ∧ xs.take k = ys.take k ∧ Below w.heap.size w wr) (fun i _ => L - (intOf i).toNat)
  case atStart => exact ⟨0, by omega, rfl, rfl, Below.refl _ _⟩
  case round =>
    obtain ⟨k, hk, rfl, heq, hb⟩ := hrel
    have HB := Lib.hid hb; have HE := Lib.hid heq
    clear hb heq
    by_cases hlt : k < L
    · have hlt' : (k : Int) < L := by omega
      have hk0 : (0 : Int) ≤ k := by omega
      have hkm : (k : Int) < 9223372036854775807 := by have := HLm.out; unfold maxLen at this; omega
      have hi1 : k < xs.length := by rw [HL.out]; exact hlt
      have hi2 : k < ys.length := by rw [HL2.out]; exact hlt
      obtain ⟨_, a', cap', he, hcell⟩ := HS1.out.keep HB.out
      rw [HL.out] at he
      cases he
      obtain ⟨b, off, rfl, hbl, hcell⟩ := hcell (by omega)
      have c1 := hcell k hi1
      clear hcell
      obtain ⟨_, a', cap', he, hcell⟩ := HS2.out.keep HB.out
      rw [HL2.out] at he
      cases he
      obtain ⟨b2, off2, rfl, hbl2, hcell⟩ := hcell (by omega)
      have d1 := hcell k hi2
      clear hcell hbl hbl2
      have ht1 : xs.take (k + 1) = xs.take k ++ [xs[k]] := List.take_succ_eq_append_getElem hi1
      have ht2 : ys.take (k + 1) = ys.take k ++ [ys[k]] := List.take_succ_eq_append_getElem hi2
      have hdf : xs[k] ≠ ys[k] → decide (xs = ys) = false := fun h => by
        rw [decide_eq_false_iff_not]
        intro e
        subst e
        exact h rfl
      obtain ⟨x, hx⟩ : ∃ x, xs[k] = x := ⟨_, rfl⟩
      obtain ⟨y, hy⟩ : ∃ y, ys[k] = y := ⟨_, rfl⟩
      rw [hx] at c1 ht1 hdf
      rw [hy] at d1 ht2 hdf
      have HT1 := Lib.hid ht1; have HT2 := Lib.hid ht2; have HDf := Lib.hid hdf
      clear hx hy ht1 ht2 hdf hi1 hi2
      by_cases hxy : x = y
      · subst hxy
        go_upto_region 6 with fail
        go_quiet (fail)
        have HBn := Lib.hid (HB.out.drewN' nq)
        clear c1 d1
        go_wp2
        go_roundw
        case rel => exact ⟨k + 1, by omega, by go_num, by rw [HT1.out, HT2.out, HE.out], HBn.out⟩
        case measure => simp [intOf]; omega
      · have HXy := Lib.hid (HDf.out hxy)
        have HXl := Lib.hid (text_ne hxy)
        clear hxy
        go_upto_region 6 with fail
        go_quiet (fail)
        have HBn := Lib.hid (HB.out.drewN' nq)
        clear c1 d1
        rw [HXl.out, Bool.not_false]
        clear HDf HXl HT1 HT2 HE
        go_upto_region 7 with fail
        go_wp2
        go_ret
        exact ⟨by rw [HXy.out]; rfl, HBn.out⟩
    · obtain rfl : k = L := by omega
      have hd : decide (xs = ys) = true := by
        have := HE.out
        rw [List.take_of_length_le (by rw [HL.out]; omega), List.take_of_length_le (by rw [HL2.out]; omega)] at this
        simpa using this
      have HD := Lib.hid hd
      clear hd
      go_wp2
      go_ret
      exact ⟨by rw [HD.out]; rfl, HB.out⟩

end Go.Proofs.YtgdfdljgbogbnaaDoor.journal
