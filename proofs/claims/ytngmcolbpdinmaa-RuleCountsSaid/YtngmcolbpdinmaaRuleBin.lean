/- slices.BinarySearch of numbers that rise, for one that is there. -/
import Derived.Test.YtngmcolbpdinmaaRows
import Derived.Test.YtngmcolbpdinmaaRuleLow
import Derived.Test.YtngmcolbpdinmaaCrushOrd
namespace Go.Proofs.Ytngmcolbpdinmaa.crush
open Go.RowKit
open Go.Proofs.Ytngmcolbpdinmaa.kit Go.Proofs.Ytngmcolbpdinmaa.own
set_option linter.unusedVariables false

set_option maxHeartbeats 4000000 in
theorem lessI_any (a b : Int) (w : World) : Calls Try.prog 40 #[.int .i64 a, .int .i64 b] w fun e w' => e = .returned (.bool (decide (a < b))) ∧ w' = w := by
  go_enter Try.func40, Try.ntmps40
  go_wp2_with (go_at_call 50; refine (nan_int _ _).mono ?_; rintro e w' ⟨rfl, rfl⟩)
  go_ret
  exact ⟨rfl, rfl⟩

theorem strict_at {xs : List Int} (h : xs.Pairwise (· < ·)) {i j : Nat} (hi : i < xs.length) (hj : j < xs.length) : xs[i] < xs[j] ↔ i < j := by
  rw [List.pairwise_iff_getElem] at h
  constructor
  · intro hl
    rcases Nat.lt_or_ge i j with h1 | h1
    · exact h1
    · rcases Nat.eq_or_lt_of_le h1 with h2 | h2
      · subst h2; omega
      · have := h j i hj hi h2; omega
  · exact fun hl => h i j hi hj hl

set_option maxHeartbeats 8000000 in
set_option maxRecDepth 100000 in
theorem bin_any (v : Value) (xs : List Int) (p : Nat) (hp : p < xs.length) (hr : xs.Pairwise (· < ·)) (hl : xs.length ≤ 65536) (w : World) (h : Sl ic 1 w v xs) :
    Calls Try.prog 30 #[v, .int .i64 xs[p]] w fun e w' => e = .returned (.tuple #[.int .i64 p, .bool true]) ∧ w' = w := by
  obtain ⟨b, off, c, rfl, hbl, hc⟩ := int_at h hp
  have HC := Lib.hid hc
  have HLt : Hid (∀ k (hk : k < xs.length), xs[k] < xs[p] ↔ k < p) := Lib.hid (fun k hk => strict_at hr hk hp)
  have cp := hc p hp
  have HCp := Lib.hid cp
  generalize xs[p] = z at HLt cp HCp ⊢
  obtain ⟨L, hL⟩ : ∃ L, xs.length = L := ⟨_, rfl⟩
  have HL := Lib.hid hL
  rw [hL] at hp hl ⊢
  clear h hc hbl hr hL cp
  go_enter Try.func30, Try.ntmps30
  go_wp2
  go_loopw [7, 8] (fun v7 v8 wr => ∃ i j : Nat, v7 = .int .i64 i ∧ v8 = .int .i64 j ∧ i ≤ p ∧ p ≤ j ∧ j ≤ L ∧ wr = w) (fun i j _ => (intOf j).toNat - (intOf i).toNat)
  case atStart => exact ⟨0, L, rfl, rfl, by omega, by omega, by omega, rfl⟩
  case round =>
    obtain ⟨i, j, rfl, rfl, hip, hpj, hjL, rfl⟩ := hrel
    by_cases hlt : i < j
    · have hlt' : (i : Int) < j := by omega
      obtain ⟨m, hm⟩ : ∃ m, (i + j) / 2 = m := ⟨_, rfl⟩
      have hm1 : i ≤ m ∧ m < j := by omega
      have hml : m < xs.length := by rw [HL.out]; omega
      have ck := HC.out m hml
      have hmz := HLt.out m hml
      generalize xs[m] = y at ck hmz
      have HMz := Lib.hid hmz
      have hm0 : (0 : Int) ≤ m := by omega
      have hmL : (m : Int) < L := by omega
      clear hmz hml
      have hmd : ((i : Int) + j) / 2 = m := by omega
      have HLs := Lib.hid (lessI_any y z wr)
      by_cases hyz : y < z
      · have hmp : m < p := HMz.out.1 hyz
        have hd : decide (y < z) = true := decide_eq_true hyz
        rw [hd] at HLs
        go_upto_region 5 with fail

        clear hmd hd hyz
        go_wp2_with (go_at_call 40; refine HLs.out.mono ?_; rintro e w' ⟨rfl, rfl⟩)
        clear ck
        go_roundw
        case rel => exact ⟨m + 1, j, by go_num, rfl, by omega, by omega, by omega, trivial⟩
        case measure => simp [intOf]; omega
      · have hmp : p ≤ m := by
          rcases Nat.lt_or_ge m p with h1 | h1
          · exact absurd (HMz.out.2 h1) hyz
          · exact h1
        have hd : decide (y < z) = false := decide_eq_false hyz
        rw [hd] at HLs
        go_upto_region 5 with fail

        clear hmd hd hyz
        go_wp2_with (go_at_call 40; refine HLs.out.mono ?_; rintro e w' ⟨rfl, rfl⟩)
        clear ck
        go_roundw
        case rel => exact ⟨i, m, rfl, rfl, by omega, by omega, by omega, trivial⟩
        case measure => simp [intOf]; omega
    · obtain rfl : i = j := by omega
      obtain rfl : i = p := by omega
      have cp := HCp.out
      have hi0 : (0 : Int) ≤ i := by omega
      have hiL : (i : Int) < L := by omega
      clear hlt hip hpj hjL HC HLt HL hp
      go_wp2_with (go_at_call 41; fail)
      go_ret2
      exact ⟨rfl, rfl⟩
end Go.Proofs.Ytngmcolbpdinmaa.crush
