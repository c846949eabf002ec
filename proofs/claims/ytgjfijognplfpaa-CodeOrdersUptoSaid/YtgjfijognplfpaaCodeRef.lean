/- The document's own way of writing fields: numbers, fields, rows. -/
import Derived.Test.YtgjfijognplfpaaRows
import Derived.Test.YtgjfijognplfpaaCodeField
import Derived.Test.YtgjfijognplfpaaCodePick
namespace Go.Proofs.Ytgjfijognplfpaa.code
open Go.RowKit
open Go.Proofs.Ytgjfijognplfpaa.kit Go.Proofs.Ytgjfijognplfpaa.cm
set_option linter.unusedVariables false

set_option maxHeartbeats 4000000 in
set_option maxRecDepth 100000 in
theorem rnumber_any (x : Nat) (hx : x < 18446744073709551616) (B : Nat) (v : Value) (ns : List Nat) (w : World) (hown : OwnI w B 5 .u8 v ns) (hB : B ≤ w.heap.size) (hlen : ns.length ≤ 1000000000000) :
    Calls Try.prog 48 #[v, .int .u64 x] w (Lays w B (ns ++ numB x)) := by
  have HH := Lib.hid hown; have HB := Lib.hid hB
  have HX := Lib.hid (show x < 128 ^ 10 by omega)
  have H64 := Lib.hid hx
  clear hown hB hx
  go_enter Try.func48, Try.ntmps48
  go_wp2
  go_loopw [0, 1] (fun v' vx wr => ∃ (k y : Nat) (acc : List Nat), k ≤ 9 ∧ y < 18446744073709551616 ∧ y < 128 ^ (10 - k) ∧ vx = .int .u64 y ∧ OwnI wr B 5 .u8 v' acc ∧ acc ++ numF (10 - k) y = ns ++ numB x ∧ acc.length = ns.length + k ∧ Kept B 5 w wr) (fun _ i _ => (intOf i).toNat)
  case atStart => exact ⟨0, x, ns, by omega, H64.out, HX.out, rfl, HH.out, rfl, rfl, Kept.refl _ _ _⟩
  case round =>
    obtain ⟨k, y, acc, hk, hy, hyk, rfl, ho, he, hl, hkp⟩ := hrel
    have HO := Lib.hid ho; have HE := Lib.hid he; have HK := Lib.hid hkp; have HYK := Lib.hid hyk; have HY := Lib.hid hy
    have hsz : B ≤ wr.heap.size := Nat.le_trans HB.out hkp.size
    clear ho he hkp hyk hy
    by_cases h128 : 128 ≤ y
    · have h128' : (128 : Int) ≤ y := by omega
      obtain ⟨c, hc⟩ : ∃ c : Nat, c = y % 128 + 128 := ⟨_, rfl⟩
      obtain ⟨z, hz⟩ : ∃ z : Nat, z = y / 128 := ⟨_, rfl⟩
      have r1 : True → (y : Int) % 128 + 128 = (c : Int) := fun _ => by omega
      have r2 : True → (y : Int) / 128 = (z : Int) := fun _ => by omega
      have r3 : True → (c : Int) % 256 = (c : Int) := fun _ => by omega
      have r4 : True → IntKind.u64.wrap (z : Int) = (z : Int) := fun _ => wrap_nat z (by have := HY.out; omega)
      have HC := Lib.hid hc; have HZ := Lib.hid hz
      have hzy : z < y := by omega
      clear hc hz
      go_wp2_with (at_builtin; refine app1K rfl (.tmp 7) (.tmp 12) 27 rfl B 5 .u8 1 Try.underlying27 infoByte _ acc rfl HO.out c _ rfl _ rfl rfl ?_ ?_ hsz ?_)
      case refine_1 => unfold maxLen; omega
      case refine_2 => omega
      intro v1 w1 ho1 hk1
      have HO1 := Lib.hid ho1; have HK1 := Lib.hid (HK.out.trans hk1)
      clear ho1 hk1
      go_wp2
      go_roundw
      case rel =>
        have hk8 : k ≤ 8 := by
          have h1 := HYK.out
          rcases Nat.lt_or_ge k 9 with g | g
          · omega
          · obtain rfl : k = 9 := by omega
            simp at h1; omega
        have e1 := HE.out
        rw [show 10 - k = 10 - (k + 1) + 1 by omega, numF, if_neg (by omega), ← HC.out, ← HZ.out] at e1
        refine ⟨k + 1, z, acc ++ [c], by omega, by have := HY.out; omega, ?_, rfl, HO1.out, by rw [List.append_assoc]; exact e1, by rw [List.length_append, hl]; rfl, HK1.out⟩
        have h1 := HYK.out
        rw [show 10 - k = 10 - (k + 1) + 1 by omega, Nat.pow_succ] at h1
        rw [HZ.out]
        exact Nat.div_lt_of_lt_mul (by rw [Nat.mul_comm]; exact h1)
      case measure => simp [intOf]; omega
    · have h128' : ¬ (128 : Int) ≤ y := by omega
      have r1 : True → (y : Int) % 256 = (y : Int) := fun _ => by omega
      go_wp2_with (at_builtin; refine app1K rfl (.tmp 16) (.tmp 19) 27 rfl B 5 .u8 1 Try.underlying27 infoByte _ acc rfl HO.out y _ rfl _ rfl rfl ?_ ?_ hsz ?_)
      case refine_1 => unfold maxLen; omega
      case refine_2 => omega
      intro v1 w1 ho1 hk1
      have HO1 := Lib.hid ho1; have HK1 := Lib.hid (HK.out.trans hk1)
      clear ho1 hk1
      go_wp2
      go_ret
      have e1 := HE.out
      rw [show 10 - k = 10 - (k + 1) + 1 by omega, numF, if_pos (by omega)] at e1
      exact ⟨⟨v1, rfl, by rw [← e1]; exact HO1.out⟩, HK1.out⟩

set_option maxHeartbeats 4000000 in
set_option maxRecDepth 100000 in
theorem rzig_any (x : Int) (h0 : -9223372036854775808 ≤ x) (h1 : x ≤ 9223372036854775807) (w : World) : Calls Try.prog 49 #[.int .i64 x] w fun e w' => e = .returned (.int .u64 (zig x)) ∧ w = w' := by
  by_cases hx : x < 0
  · go_enter Try.func49, Try.ntmps49
    go_wp2
    go_ret
    exact ⟨ret_int (by unfold zig; rw [if_pos hx]; omega), rfl⟩
  · go_enter Try.func49, Try.ntmps49
    go_wp2
    go_ret
    exact ⟨ret_int (by unfold zig; rw [if_neg (by omega)]; omega), rfl⟩

set_option maxHeartbeats 4000000 in
set_option maxRecDepth 100000 in
theorem rfit_any (f : Fld) (w : World) :
    Calls Try.prog 9 #[f.val] w fun e w' => e = .returned (.bool f.fit) ∧ Below w.heap.size w w' := by
  obtain ⟨k, n, t, b⟩ := f
  unfold Fld.val
  by_cases h3 : k = 3
  · subst h3
    obtain ⟨m, hm⟩ : ∃ m, min (max n 0) 4294967295 = m := ⟨_, rfl⟩
    have hd : (n == m) = (decide (0 ≤ n) && decide (n ≤ 4294967295)) := by
      rw [← hm]
      by_cases h1 : 0 ≤ n
      · by_cases h2 : n ≤ 4294967295
        · have : min (max n 0) 4294967295 = n := by omega
          rw [this]; simp [h1, h2]
        · have : ¬ n = min (max n 0) 4294967295 := by omega
          simp [this, h2]
      · have : ¬ n = min (max n 0) 4294967295 := by omega
        simp [this, h1]
    have HF := Lib.hid (show (Fld.mk 3 n t b).fit = ((n == m) && (decide (t.toList = [])) && !b) by rw [hd]; simp [Fld.fit])
    clear hd
    go_enter Try.func9, Try.ntmps9
    go_wp2
    all_goals go_ret
    all_goals refine ⟨?_, ((Below.refl _ w).alloc (Nat.le_refl _) _).alloc (by simp) _⟩
    all_goals change Ending.returned (Value.bool _) = Ending.returned (Value.bool _)
    all_goals refine congrArg Ending.returned (congrArg Value.bool ?_)
    all_goals rw [HF.out]
    all_goals simp_all
  by_cases h1 : k = 1
  · subst h1
    obtain ⟨m, hm⟩ : ∃ m, max n 0 = m := ⟨_, rfl⟩
    have hd : (n == m) = decide (0 ≤ n) := by
      rw [← hm]
      by_cases h1 : 0 ≤ n
      · have : max n 0 = n := by omega
        rw [this]; simp [h1]
      · have : ¬ n = max n 0 := by omega
        simp [this, h1]
    have HF := Lib.hid (show (Fld.mk 1 n t b).fit = ((n == m) && decide (t.toList = []) && !b) by rw [hd]; simp [Fld.fit])
    clear hd
    go_enter Try.func9, Try.ntmps9
    go_wp2
    all_goals go_ret
    all_goals refine ⟨?_, ((Below.refl _ w).alloc (Nat.le_refl _) _).alloc (by simp) _⟩
    all_goals change Ending.returned (Value.bool _) = Ending.returned (Value.bool _)
    all_goals refine congrArg Ending.returned (congrArg Value.bool ?_)
    all_goals rw [HF.out]
    all_goals simp_all
  by_cases h2 : k = 2
  · subst h2
    have HF := Lib.hid (show (Fld.mk 2 n t b).fit = (decide (t.toList = []) && !b) by simp [Fld.fit])
    go_enter Try.func9, Try.ntmps9
    go_wp2
    all_goals go_ret
    all_goals refine ⟨?_, ((Below.refl _ w).alloc (Nat.le_refl _) _).alloc (by simp) _⟩
    all_goals change Ending.returned (Value.bool _) = Ending.returned (Value.bool _)
    all_goals refine congrArg Ending.returned (congrArg Value.bool ?_)
    all_goals rw [HF.out]
    all_goals simp_all
  by_cases h4 : k = 4
  · subst h4
    have HF := Lib.hid (show (Fld.mk 4 n t b).fit = (decide (n = 0) && !b) by simp [Fld.fit])
    go_enter Try.func9, Try.ntmps9
    go_wp2
    all_goals go_ret
    all_goals refine ⟨?_, ((Below.refl _ w).alloc (Nat.le_refl _) _).alloc (by simp) _⟩
    all_goals change Ending.returned (Value.bool _) = Ending.returned (Value.bool _)
    all_goals refine congrArg Ending.returned (congrArg Value.bool ?_)
    all_goals rw [HF.out]
    all_goals simp_all
  by_cases h5 : k = 5
  · subst h5
    have HF := Lib.hid (show (Fld.mk 5 n t b).fit = (decide (n = 0) && decide (t.toList = [])) by simp [Fld.fit])
    go_enter Try.func9, Try.ntmps9
    go_wp2
    all_goals go_ret
    all_goals refine ⟨?_, ((Below.refl _ w).alloc (Nat.le_refl _) _).alloc (by simp) _⟩
    all_goals change Ending.returned (Value.bool _) = Ending.returned (Value.bool _)
    all_goals refine congrArg Ending.returned (congrArg Value.bool ?_)
    all_goals rw [HF.out]
    all_goals simp_all
  have b1 : True → (k == 1) = false := fun _ => by simpa using h1
  have b2 : True → (k == 2) = false := fun _ => by simpa using h2
  have b3 : True → (k == 3) = false := fun _ => by simpa using h3
  have b4 : True → (k == 4) = false := fun _ => by simpa using h4
  have b5 : True → (k == 5) = false := fun _ => by simpa using h5
  have HF := Lib.hid (show (Fld.mk k n t b).fit = false by simp [Fld.fit, h1, h2, h3, h4, h5])
  clear h1 h2 h3 h4 h5
  go_enter Try.func9, Try.ntmps9
  go_wp2
  go_ret
  exact ⟨by rw [HF.out]; rfl, ((Below.refl _ w).alloc (Nat.le_refl _) _).alloc (by simp) _⟩

end Go.Proofs.Ytgjfijognplfpaa.code
