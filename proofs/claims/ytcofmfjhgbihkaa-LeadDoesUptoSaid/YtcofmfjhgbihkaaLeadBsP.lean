/- slices.BinarySearchFunc by a monitor's number. -/
import Derived.Test.YtcofmfjhgbihkaaRows
import Derived.Test.YtcofmfjhgbihkaaLeadCmp
import Derived.Test.YtcofmfjhgbihkaaHeldIn
import Derived.Deep.RegionHeld3
namespace Go.Proofs.Ytcofmfjhgbihkaa.crush
open Go.RowKit
open Go.Proofs.Ytcofmfjhgbihkaa.kit Go.Proofs.Ytcofmfjhgbihkaa.own
set_option linter.unusedVariables false
set_option linter.unusedSimpArgs false

set_option maxHeartbeats 8000000 in
set_option maxRecDepth 100000 in
theorem bsP_any (q : Nat) (v : Value) (xs : List PromV) (y : Int) (p : Nat) (w : World) (h : Sl prc 6 w v xs) (hp : p ≤ xs.length) (hr : ∀ k (hk : k < xs.length), xs[k].mon < y ↔ k < p) (hl : xs.length ≤ 1100000)
    (hC : ∀ x u, Below w.heap.size w u → Calls Try.prog 121 #[.agg (prc x).toArray, .int .i64 y, .pointer (some ⟨q, 0, none⟩)] u fun e w' => e = .returned (.int .i64 (cmp3 (x.mon) y)) ∧ Below u.heap.size u w') :
    Calls Try.prog 120 #[v, .int .i64 y, .func (.func 121) #[] #[.pointer (some ⟨q, 0, none⟩)]] w fun e w' => e = .returned (.tuple #[.int .i64 p, .bool (atL PromV.mon y xs p)]) ∧ Below w.heap.size w w' := by
  obtain ⟨hl63, a, c, rfl, -, hc⟩ := h
  have HC := Lib.hid hc
  have HLt := Lib.hid hr
  have HOr := Lib.hid hC
  try simp only [prc] at HOr
  have HAt : Hid (∀ (hp : p < xs.length), (atL PromV.mon y xs p) = decide (xs[p].mon = y)) := Lib.hid (fun hp => atL_in hp)
  have HAn : Hid (p = xs.length → (atL PromV.mon y xs p) = false) := Lib.hid (fun hp => atL_out (by omega))
  generalize (atL PromV.mon y xs p) = q0 at HAt HAn ⊢
  obtain ⟨L, hL⟩ : ∃ L, xs.length = L := ⟨_, rfl⟩
  have HL := Lib.hid hL
  rw [hL] at hp hl hl63 ⊢
  clear hc hr hL hC
  go_enter Try.func120, Try.ntmps120
  go_wp2
  go_loopw [9, 10] (fun v7 v8 wr => ∃ i j : Nat, v7 = .int .i64 i ∧ v8 = .int .i64 j ∧ i ≤ p ∧ p ≤ j ∧ j ≤ L ∧ Below w.heap.size w wr) (fun i j _ => (intOf j).toNat - (intOf i).toNat)
  case atStart => exact ⟨0, L, rfl, rfl, by omega, by omega, by omega, Below.refl _ _⟩
  case round =>
    obtain ⟨i, j, rfl, rfl, hip, hpj, hjL, hbw⟩ := hrel
    have HBw := Lib.hid hbw
    clear hbw
    have HDw := Lib.hid (below_drew HBw.out)
    by_cases hlt : i < j
    · have hlt' : (i : Int) < j := by omega
      obtain ⟨m, hm⟩ : ∃ m, (i + j) / 2 = m := ⟨_, rfl⟩
      have hm1 : i ≤ m ∧ m < j := by omega
      have hml : m < xs.length := by rw [HL.out]; omega
      obtain ⟨b, off, rfl, hbl, hcell⟩ := HC.out (by omega)
      have HRo : Hid (∀ u, Below w.heap.size w u → u.rangeAt b (off + m * 6) (prc xs[m])) := Lib.hid (fun u hu => range_keep (hcell m hml) hbl hu)
      have hmz := HLt.out m hml
      have HOm := Lib.hid (HOr.out xs[m])
      generalize xs[m] = x at HRo hmz HOm
      obtain ⟨xm, xn, xh, xr, xa, xt⟩ := x
      simp only [prc, Nat.mul_one] at HRo HOm hmz
      have HMz := Lib.hid hmz
      have HRw : Hid (∀ u, Below w.heap.size w u → u.cell? ⟨b, off + m * 6, none⟩ = some (.int .i64 xm) ∧ u.cell? ⟨b, off + m * 6 + 1, none⟩ = some (.int .i64 xn) ∧ u.cell? ⟨b, off + m * 6 + 2, none⟩ = some (.bool xh) ∧ u.cell? ⟨b, off + m * 6 + 3, none⟩ = some (.int .i64 xr) ∧ u.cell? ⟨b, off + m * 6 + 4, none⟩ = some (.int .i64 xa) ∧ u.cell? ⟨b, off + m * 6 + 5, none⟩ = some (.string xt)) := Lib.hid (fun u hu => ⟨by have := HRo.out u hu 0 _ rfl; simpa using this, by have := HRo.out u hu 1 _ rfl; simpa using this, by have := HRo.out u hu 2 _ rfl; simpa using this, by have := HRo.out u hu 3 _ rfl; simpa using this, by have := HRo.out u hu 4 _ rfl; simpa using this, by have := HRo.out u hu 5 _ rfl; simpa using this⟩)
      have hm0 : (0 : Int) ≤ m := by omega
      have hmL : (m : Int) < L := by omega
      have hmL' : m < L := by omega
      clear hmz hml HRo hcell hbl
      have hmd : ((i : Int) + j) / 2 = m := by omega
      obtain ⟨s0, s1, s2, s3, s4, s5⟩ := HRw.out _ HBw.out
      have HZ : Hid (cmp3 (xm) y < 0 ↔ xm < y) := Lib.hid (cmp3_neg _ _)
      generalize cmp3 (xm) y = z at HOm HZ
      by_cases hyz : z < 0
      · have hmp : m < p := HMz.out.1 (HZ.out.1 hyz)
        go_wp2_with (go_at_call 121; refine (HOm.out _ HBw.out).mono ?_; rintro e w' ⟨rfl, hb⟩; have HB9 := Lib.hid (HBw.out.trans (hb.mono HBw.out.size)); clear hb)
        go_roundw
        case rel => exact ⟨m + 1, j, by go_num, rfl, by omega, by omega, by omega, HB9.out⟩
        case measure => simp [intOf]; omega
      · have hmp : p ≤ m := by
          rcases Nat.lt_or_ge m p with h1 | h1
          · exact absurd (HZ.out.2 (HMz.out.2 h1)) hyz
          · exact h1
        go_wp2_with (go_at_call 121; refine (HOm.out _ HBw.out).mono ?_; rintro e w' ⟨rfl, hb⟩; have HB9 := Lib.hid (HBw.out.trans (hb.mono HBw.out.size)); clear hb)
        go_roundw
        case rel => exact ⟨i, m, rfl, rfl, by omega, by omega, by omega, HB9.out⟩
        case measure => simp [intOf]; omega
    · obtain rfl : i = j := by omega
      obtain rfl : i = p := by omega
      clear hlt hip hpj hjL
      have HBd := Lib.hid HDw.out
      rcases Nat.lt_or_ge i L with hiL | hiL
      · have hiL' : (i : Int) < L := by omega
        have hi0 : (0 : Int) ≤ i := by omega
        have hml : i < xs.length := by rw [HL.out]; exact hiL
        obtain ⟨b, off, rfl, hbl, hcell⟩ := HC.out (by omega)
        have HRo : Hid (∀ u, Below w.heap.size w u → u.rangeAt b (off + i * 6) (prc xs[i])) := Lib.hid (fun u hu => range_keep (hcell i hml) hbl hu)
        have hq := HAt.out hml
        have HOm := Lib.hid (HOr.out xs[i])
        generalize xs[i] = x at HRo hq HOm
        obtain ⟨xm, xn, xh, xr, xa, xt⟩ := x
        simp only [prc, Nat.mul_one] at HRo HOm hq
        have HRw : Hid (∀ u, Below w.heap.size w u → u.cell? ⟨b, off + i * 6, none⟩ = some (.int .i64 xm) ∧ u.cell? ⟨b, off + i * 6 + 1, none⟩ = some (.int .i64 xn) ∧ u.cell? ⟨b, off + i * 6 + 2, none⟩ = some (.bool xh) ∧ u.cell? ⟨b, off + i * 6 + 3, none⟩ = some (.int .i64 xr) ∧ u.cell? ⟨b, off + i * 6 + 4, none⟩ = some (.int .i64 xa) ∧ u.cell? ⟨b, off + i * 6 + 5, none⟩ = some (.string xt)) := Lib.hid (fun u hu => ⟨by have := HRo.out u hu 0 _ rfl; simpa using this, by have := HRo.out u hu 1 _ rfl; simpa using this, by have := HRo.out u hu 2 _ rfl; simpa using this, by have := HRo.out u hu 3 _ rfl; simpa using this, by have := HRo.out u hu 4 _ rfl; simpa using this, by have := HRo.out u hu 5 _ rfl; simpa using this⟩)
        have HZ : Hid (q0 = (cmp3 (xm) y == 0)) := Lib.hid (by rw [hq]; exact (cmp3_zero _ _).symm)
        generalize cmp3 (xm) y = z at HOm HZ
        clear hml HRo hcell hbl hq
        obtain ⟨s0, s1, s2, s3, s4, s5⟩ := HRw.out _ HBw.out
        go_wp2_with (go_at_call 121; refine (HOm.out _ HBw.out).mono ?_; rintro e w' ⟨rfl, hb⟩; have HB9 := Lib.hid (HBw.out.trans (hb.mono HBw.out.size)); clear hb)
        go_ret2
        exact ⟨by rw [HZ.out]; rfl, HB9.out⟩
      · obtain rfl : i = L := by omega
        have HQ : Hid (q0 = false) := Lib.hid (HAn.out HL.out.symm)
        have hiL' : ¬ (i : Int) < i := by omega
        go_wp2
        go_ret2
        exact ⟨by rw [HQ.out]; rfl, HBw.out⟩
end Go.Proofs.Ytcofmfjhgbihkaa.crush
