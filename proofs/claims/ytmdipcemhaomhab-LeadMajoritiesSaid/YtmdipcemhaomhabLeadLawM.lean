/- LeadMajorities (P16.9): two majorities always have one in common: the law's walk. -/
import Derived.Test.YtmdipcemhaomhabRows
import Derived.Test.YtmdipcemhaomhabLeadAwake
import Derived.Laws.BitsAllLaws
import Derived.WalkSpells
namespace Go.Proofs.Ytmdipcemhaomhab.crush
open Go.RowKit
open Go.Proofs.Ytmdipcemhaomhab.kit Go.Proofs.Ytmdipcemhaomhab.own
set_option linter.unusedVariables false
set_option linter.unusedSimpArgs false

theorem and1_u32 (s k : Nat) (hs : s < 4294967296) : bits BinOp.and IntKind.u32 ((s : Int) / 2 ^ k) 1 = 0 ∨ bits BinOp.and IntKind.u32 ((s : Int) / 2 ^ k) 1 = 1 := by
  have h := u32_and_nat (s / 2 ^ k) 1 (Nat.lt_of_le_of_lt (Nat.div_le_self _ _) hs) (by omega)
  rw [Nat.and_one_is_mod] at h
  have e : bits BinOp.and IntKind.u32 ((s : Int) / 2 ^ k) 1 = ((s / 2 ^ k % 2 : Nat) : Int) := by
    rw [← h]
    simp
  rw [e]
  generalize s / 2 ^ k = q
  omega

set_option maxHeartbeats 8000000 in
set_option maxRecDepth 100000 in
theorem walkMaj (n : Int) (a b' : Nat) (ha : a < 4294967296) (hb : b' < 4294967296) (w : World) : Calls Try.prog 4 #[.int .i64 n, .int .u32 a, .int .u32 b'] w fun e w' => e = .returned (.bool true) ∧ Below w.heap.size w w' := by
  have HM := Lib.hid (fun z hz u => Most_any z hz u)
  have HAw := Lib.hid (fun u => awakeL_any u)
  go_enter Try.func4, Try.ntmps4
  go_upto_region 2 with fail
  obtain ⟨N, h1, h2, h3⟩ : ∃ N : Nat, 1 ≤ N ∧ N ≤ 20 ∧ wrap64 (1 + wrap64 ((IntKind.u64.wrap n).tmod 20)) = (N : Int) := by
    have h0 : 0 ≤ IntKind.u64.wrap n := by rw [IntKind.wrap_u64]; omega
    rw [Int.tmod_eq_emod_of_nonneg h0]
    refine ⟨(1 + (IntKind.u64.wrap n) % 20).toNat, ?_, ?_, ?_⟩
    · omega
    · omega
    · unfold wrap64; omega
  rw [h3]
  clear h3
  obtain ⟨T, hT⟩ : ∃ T, mostN (N : Int) = T := ⟨_, rfl⟩
  have hT1 : T = (N : Int) / 2 + 1 := by rw [← hT]; unfold mostN; rw [if_neg (by omega)]
  have HMo := Lib.hid (fun u => HM.out (N : Int) (by unfold I64; omega) u)
  rw [hT] at HMo
  clear hT
  generalize wrap64 ((IntKind.u64.wrap n).tmod 20) = y0
  generalize (IntKind.u64.wrap n).tmod 20 = y1
  generalize IntKind.u64.wrap n = y2
  go_upto_region 3 with (go_at_call 23; refine (HMo.out _).mono ?_; rintro e w' ⟨rfl, rfl⟩)
  go_wp2
  go_loopw [8, 9, 10, 11, 12, 13] (fun v8 v9 v10 v11 v12 v13 wr => ∃ (k : Nat) (o t b : Int), k ≤ N ∧ v8 = .int .i64 o ∧ v9 = .int .i64 t ∧ v10 = .int .i64 b ∧ v11 = .int .i64 k ∧ 0 ≤ o ∧ o ≤ k ∧ 0 ≤ t ∧ t ≤ k ∧ 0 ≤ b ∧ b ≤ k ∧ o + t - k ≤ b ∧ wr = w) (fun _ _ _ i _ _ _ => N - (intOf i).toNat)
  case atStart => exact ⟨0, 0, 0, 0, by omega, rfl, rfl, rfl, rfl, by omega, by omega, by omega, by omega, by omega, by omega, by omega, rfl⟩
  case round =>
    obtain ⟨k, o, t, b, hk, rfl, rfl, rfl, rfl, h4, h5, h6, h7, h8, h9, h10, rfl⟩ := hrel
    by_cases hlt : k < N
    · have hlt' : (k : Int) < N := by omega
      have hx := and1_u32 a k ha
      have hy := and1_u32 b' k hb
      go_wp2
      generalize bits BinOp.and IntKind.u32 ((a : Int) / 2 ^ k) 1 = x at hx ⊢
      generalize bits BinOp.and IntKind.u32 ((b' : Int) / 2 ^ k) 1 = y at hy ⊢
      refine ⟨⟨k + 1, o + x, t + y, b + x * y, by omega, ?_, ?_, ?_, by go_num, ?_, ?_, ?_, ?_, ?_, ?_, ?_, trivial⟩, by simp [intOf]; omega⟩
      all_goals rcases hx with rfl | rfl <;> rcases hy with rfl | rfl <;> first | omega | (congr 1 <;> (unfold wrap64; omega))
    · obtain rfl : k = N := by omega
      clear hlt hk
      by_cases c1 : o < T
      · go_wp2_with (go_at_call 10; refine (HAw.out _).mono ?_; rintro e w1 ⟨rfl, hb⟩; have HB := Lib.hid hb; clear hb)
        go_ret
        exact ⟨rfl, HB.out⟩
      · by_cases c2 : t < T
        · go_wp2_with (go_at_call 10; refine (HAw.out _).mono ?_; rintro e w1 ⟨rfl, hb⟩; have HB := Lib.hid hb; clear hb)
          go_ret
          exact ⟨rfl, HB.out⟩
        · have c3 : 0 < b := by omega
          go_wp2_with (go_at_call 10; refine (HAw.out _).mono ?_; rintro e w1 ⟨rfl, hb⟩; have HB := Lib.hid hb; clear hb)
          go_ret
          exact ⟨rfl, HB.out⟩
end Go.Proofs.Ytmdipcemhaomhab.crush
