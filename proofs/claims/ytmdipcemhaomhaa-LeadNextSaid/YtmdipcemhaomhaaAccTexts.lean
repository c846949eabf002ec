/- The document's Texts: two rows of texts, compared. -/
import Derived.Test.YtmdipcemhaomhaaRows
import Derived.Test.YtmdipcemhaomhaaAccBase
import Derived.Deep.QuietTactic
namespace Go.Proofs.Ytmdipcemhaomhaa.crush
open Go.RowKit
open Go.Proofs.Ytmdipcemhaomhaa.kit Go.Proofs.Ytmdipcemhaomhaa.own
set_option linter.unusedVariables false
set_option linter.unusedSimpArgs false

theorem text_ne {x y : ByteArray} (h : ¬ x = y) : (x.toList == y.toList) = false := by
  rw [beq_eq_false_iff_ne]
  intro e
  rw [ByteArray.toList_eq, ByteArray.toList_eq] at e
  exact h (ByteArray.ext (Array.toList_inj.1 e))

set_option maxHeartbeats 4000000 in
set_option maxRecDepth 100000 in
theorem Texts_any (v1 v2 : Value) (xs ys : List ByteArray) (w : World) (h1 : Sl tx 1 w v1 xs) (h2 : Sl tx 1 w v2 ys) :
    Calls Try.prog 19 #[v1, v2] w fun e w' => e = .returned (.bool (decide (xs = ys))) ∧ Below w.heap.size w w' := by
  have HS1 := Lib.hid h1; have HS2 := Lib.hid h2
  obtain ⟨hl1, a1, cap1, rfl, -, hc1⟩ := h1
  obtain ⟨hl2, a2, cap2, rfl, -, hc2⟩ := h2
  by_cases hne : xs.length = ys.length
  case neg =>
    have hd : decide (xs = ys) = false := by simp; intro h; exact hne (by rw [h])
    rw [hd]
    have hn' : ¬ ((xs.length : Nat) : Int) = ((ys.length : Nat) : Int) := by omega
    clear hc1 hc2 hl1 hl2 hd hne HS1 HS2
    generalize ((xs.length : Nat)) = l1 at hn' ⊢
    generalize ((ys.length : Nat)) = l2 at hn' ⊢
    go_enter Try.func19, Try.ntmps19
    go_wp2
    go_ret
    exact ⟨rfl, Below.refl _ _⟩
  obtain ⟨L, hL⟩ : ∃ L, xs.length = L := ⟨_, rfl⟩
  have hL2 : ys.length = L := by omega
  have HL := Lib.hid hL; have HL2 := Lib.hid hL2
  rw [hL, hL2]
  have hLm : L ≤ 9223372036854775807 := by omega
  have HLm := Lib.hid hLm
  clear hl1 hl2 hc1 hc2 hne hL hL2 hLm
  go_enter Try.func19, Try.ntmps19
  go_wp2
  go_loopw [5] (fun i wr => ∃ k : Nat, k ≤ L ∧ i = .int .i64 k ∧ Hid (xs.take k = ys.take k) ∧ Below w.heap.size w wr) (fun i _ => L - (intOf i).toNat)
  case atStart => exact ⟨0, by omega, rfl, Lib.hid rfl, Below.refl _ _⟩
  case round =>
    obtain ⟨k, hk, rfl, HE, hb⟩ := hrel
    have HB := Lib.hid hb
    clear hb
    by_cases hlt : k < L
    · have hlt' : (k : Int) < L := by omega
      have hk0 : (0 : Int) ≤ k := by omega
      have hkm : (k : Int) < 9223372036854775807 := by have := HLm.out; omega
      have hi1 : k < xs.length := by rw [HL.out]; exact hlt
      have hi2 : k < ys.length := by rw [HL2.out]; exact hlt
      obtain ⟨_, a', cap', he, -, hcell⟩ := HS1.out.keep HB.out
      rw [HL.out] at he
      cases he
      obtain ⟨b, off, rfl, hbl, hcell⟩ := hcell (by omega)
      have c1 := tcell_at (hcell k hi1)
      clear hcell
      obtain ⟨_, a', cap', he, -, hcell⟩ := HS2.out.keep HB.out
      rw [HL2.out] at he
      cases he
      obtain ⟨b2, off2, rfl, hbl2, hcell⟩ := hcell (by omega)
      have d1 := tcell_at (hcell k hi2)
      rw [Nat.mul_one] at c1 d1
      clear hcell hbl hbl2
      have ht1 : xs.take (k + 1) = xs.take k ++ [xs[k]] := List.take_succ_eq_append_getElem hi1
      have ht2 : ys.take (k + 1) = ys.take k ++ [ys[k]] := List.take_succ_eq_append_getElem hi2
      have hdf : xs[k] ≠ ys[k] → decide (xs = ys) = false := fun h => by
        rw [decide_eq_false_iff_not]
        intro e
        subst e
        exact h rfl
      obtain ⟨x, hx⟩ : ∃ x, xs[k] = x := ⟨_, rfl⟩
      obtain ⟨y, hy⟩ : ∃ y, ys[k] = y := ⟨_, rfl⟩
      rw [hx] at c1 ht1 hdf
      rw [hy] at d1 ht2 hdf
      have HT1 := Lib.hid ht1; have HT2 := Lib.hid ht2; have HDf := Lib.hid hdf
      clear hx hy ht1 ht2 hdf hi1 hi2
      by_cases hxy : x = y
      · subst hxy
        go_upto_region 6 with fail
        go_quiet (fail)
        have HBn := Lib.hid (HB.out.drewN' nq)
        clear c1 d1
        go_wp2
        go_roundw
        case rel => exact ⟨k + 1, by omega, by go_num, Lib.hid (by rw [HT1.out, HT2.out, HE.out]), HBn.out⟩
        case measure => simp [intOf]; omega
      · have HXy := Lib.hid (HDf.out hxy)
        have HXl := Lib.hid (text_ne hxy)
        clear hxy
        go_upto_region 6 with fail
        go_quiet (fail)
        have HBn := Lib.hid (HB.out.drewN' nq)
        clear c1 d1
        rw [HXl.out, Bool.not_false]
        clear HDf HXl HT1 HT2 HE
        go_upto_region 7 with fail
        go_wp2
        go_ret
        exact ⟨by rw [HXy.out]; rfl, HBn.out⟩
    · obtain rfl : k = L := by omega
      have hd : decide (xs = ys) = true := by
        have := HE.out
        rw [List.take_of_length_le (by rw [HL.out]; omega), List.take_of_length_le (by rw [HL2.out]; omega)] at this
        simpa using this
      have HD := Lib.hid hd
      clear hd
      go_wp2
      go_ret
      exact ⟨by rw [HD.out]; rfl, HB.out⟩
end Go.Proofs.Ytmdipcemhaomhaa.crush
