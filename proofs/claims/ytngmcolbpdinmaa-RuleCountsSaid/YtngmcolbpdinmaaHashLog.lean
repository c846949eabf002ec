/- The walks of the two logarithms: each returns hm.lgx. -/
import Derived.Test.YtngmcolbpdinmaaRows
import Derived.Test.YtngmcolbpdinmaaHashMath
import Derived.Test.YtngmcolbpdinmaaHashLen
import Derived.WalkKit
import Derived.ProofKit
import Derived.OpenShut
import Derived.Lib.Hide
import Derived.Laws.BitsAllLaws
import Derived.WalkSpells
namespace Go.Proofs.Ytngmcolbpdinmaa.hash
open Go.RowKit
open Go.Proofs.Ytngmcolbpdinmaa.hm
set_option linter.unusedVariables false

theorem ret_u32 {a b : Int} (h : a = b) : Ending.returned (.int .u32 a) = .returned (.int .u32 b) := by rw [h]

theorem u64_in (a : Nat) (h : a < 18446744073709551616) : IntKind.u64.wrap (a : Int) = (a : Int) := by
  simp [IntKind.wrap, IntKind.bits, IntKind.signed]; omega

theorem u64_sq (y : Nat) (h : y < 4294967296) : IntKind.u64.wrap ((y : Int) * (y : Int)) = ((y * y : Nat) : Int) := by
  have := u64_in (y * y) (sq_lt y h)
  rw [← this]; congr 1

theorem u64_start (x : Nat) (h : x < 4294967296) (n : Nat) (hn : n = Nat.log2 x) : IntKind.u64.wrap ((x : Int) * 2 ^ (31 - n)) = ((x * 2 ^ (31 - n) : Nat) : Int) := by
  subst hn
  have := u64_in (x * 2 ^ (31 - Nat.log2 x)) (by have := start_hi x h; omega)
  rw [← this]; congr 1

theorem or_one (l : Nat) (h : l < 2147483648) : bits BinOp.or IntKind.u32 ((l : Int) * 2) 1 = ((l * 2 + 1 : Nat) : Int) := by
  have := u32_or_nat (l * 2) 1 (by omega) (by omega)
  have e : l * 2 ||| 1 = l * 2 + 1 := by rw [nat_join 1 (l * 2) 1 (by omega) (by omega)]
  rw [e] at this
  simpa using this

/-- What the loop of squares keeps: what is still to come, out of y and l, is the whole, T. -/
def Keeps (T : Nat) (i y l : Nat) : Prop := i ≤ 16 ∧ y < 4294967296 ∧ lgF (16 - i) y l = T ∧ T < 2097152

theorem Keeps.low {T i y l : Nat} (h : Keeps T i y l) : l < 2097152 := by
  have a := lgF_le (16 - i) y l
  have := h.2.2
  omega

theorem Keeps.small {T i y l : Nat} (h : Keeps T i y l) (hi : i < 16) (hr : y * y / 2147483648 < 4294967296) : Keeps T (i + 1) (y * y / 2147483648) (l * 2) := by
  refine ⟨by omega, hr, ?_, h.2.2.2⟩
  have := h.2.2.1
  rw [show 16 - i = (16 - (i + 1)) + 1 from by omega, lgF, if_pos hr] at this
  exact this

theorem Keeps.big {T i y l : Nat} (h : Keeps T i y l) (hi : i < 16) (hr : ¬ y * y / 2147483648 < 4294967296) : Keeps T (i + 1) (y * y / 2147483648 / 2) (l * 2 + 1) := by
  refine ⟨by omega, sq_half y h.2.1, ?_, h.2.2.2⟩
  have := h.2.2.1
  rw [show 16 - i = (16 - (i + 1)) + 1 from by omega, lgF, if_neg hr] at this
  exact this

theorem Keeps.fin {T i y l : Nat} (h : Keeps T i y l) (hi : ¬ i < 16) : l = T := by
  have := h.2.2.1
  rw [show 16 - i = 0 from by omega, lgF] at this
  exact this

theorem Keeps.start {x : Nat} (h0 : 0 < x) (hx : x < 4294967296) : Keeps (lgx x) 0 (x * 2 ^ (31 - Nat.log2 x)) (Nat.log2 x) :=
  ⟨by omega, start_hi x hx, by unfold lgx; rw [if_neg (by omega)], lgx_lt x hx⟩

theorem Keeps.start0 {x : Nat} (hx : x < 4294967296) : Keeps (lgF 16 (x * 2 ^ (31 - Nat.log2 x)) 0) 0 (x * 2 ^ (31 - Nat.log2 x)) 0 :=
  ⟨by omega, start_hi x hx, rfl, by have := lgF_lt 16 (x * 2 ^ (31 - Nat.log2 x)); omega⟩

theorem lgx_sum {x : Nat} (h0 : 0 < x) : Nat.log2 x * 65536 + lgF 16 (x * 2 ^ (31 - Nat.log2 x)) 0 = lgx x := by
  unfold lgx
  rw [if_neg (by omega), lgF_add 16 _ (Nat.log2 x)]

set_option maxRecDepth 100000 in
theorem log_any (x : Nat) (hh : x < 4294967296) (w : World) :
    Calls Try.prog 62 #[.int .u32 x] w fun e w' => e = .returned (.int .u32 (lgx x)) ∧ w = w' := by
  by_cases h0 : x = 0
  · subst h0
    go_enter Try.func62, Try.ntmps62
    go_wp2
    go_ret
    exact ⟨rfl, rfl⟩
  have hx : ((x : Int) == 0) = false := by rw [beq_eq_false_iff_ne]; omega
  have HL := Lib.hid (bitLen_log x (by omega) hh)
  have HS := Lib.hid (Keeps.start (by omega) hh)
  have hn := log2_le x hh
  have eY : True → IntKind.u64.wrap ((x : Int) * 2 ^ (31 - Nat.log2 x)) = ((x * 2 ^ (31 - Nat.log2 x) : Nat) : Int) := fun _ => u64_start x hh _ rfl
  generalize x * 2 ^ (31 - Nat.log2 x) = Y at eY HS
  generalize Nat.log2 x = n at eY HS HL hn
  go_enter Try.func62, Try.ntmps62
  go_wp2_with fail
  refine (len32 (x : Int) (by omega) (by omega) _).mono ?_
  rintro e w' ⟨rfl, rfl⟩
  rw [Int.toNat_natCast, HL.out]
  go_wp2
  clear eY hh
  go_loop [18, 4, 5] (fun vi vl vy => ∃ i y l : Nat, Keeps (lgx x) i y l ∧ vi = .int .i64 i ∧ vl = .int .u32 l ∧ vy = .int .u64 y) (fun i _ _ => 16 - (intOf i).toNat)
  case atStart => exact ⟨0, Y, n, HS.out, rfl, rfl, rfl⟩
  case round =>
    obtain ⟨i, y, l, hk, rfl, rfl, rfl⟩ := hrel
    have hl := hk.low
    have hi := hk.1
    have hy := hk.2.1
    by_cases hi16 : i < 16
    · have e1 : True → IntKind.u64.wrap ((y : Int) * (y : Int)) = ((y * y : Nat) : Int) := fun _ => u64_sq y hy
      have k1 := hk.small hi16
      have k2 := hk.big hi16
      have K1 := Lib.hid k1; have K2 := Lib.hid k2; clear k1 k2 hk hy
      generalize y * y = q at e1 K1 K2
      have e2 : True → (q : Int) / 2147483648 = ((q / 2147483648 : Nat) : Int) := fun _ => by omega
      generalize q / 2147483648 = r at e2 K1 K2
      by_cases hr : r < 4294967296
      · have hb : True → decide ((4294967296 : Int) ≤ (r : Int)) = false := fun _ => by simp; omega
        have Hr := Lib.hid hr; clear hr
        go_wp2
        go_round
        case rel => exact ⟨i + 1, r, l * 2, K1.out Hr.out, by go_num, by go_num, by go_num⟩
        case measure => simp [intOf]; omega
      · have hb : True → decide ((4294967296 : Int) ≤ (r : Int)) = true := fun _ => by simp; omega
        have Hr := Lib.hid hr; clear hr
        go_wp2
        go_round
        case rel => exact ⟨i + 1, r / 2, l * 2 + 1, K2.out Hr.out, by go_num, by rw [or_one l (by omega)], by go_num⟩
        case measure => simp [intOf]; omega
    · have HF := Lib.hid (hk.fin hi16)
      clear hk
      go_wp2
      go_ret
      exact ⟨ret_u32 (by rw [HF.out]), rfl⟩

theorem shr_gt (x i : Nat) : ((1 : Int) < (x : Int) / 2 ^ i) ↔ 2 ^ (i + 1) ≤ x := by
  have h1 : ((x : Int) / 2 ^ i) = ((x / 2 ^ i : Nat) : Int) := by simp
  rw [h1, Nat.pow_succ, Nat.mul_comm, ← Nat.le_div_iff_mul_le (Nat.two_pow_pos i)]
  omega

/-- What the first loop of the document's own logarithm keeps. -/
def Below2 (x n : Nat) : Prop := 2 ^ n ≤ x
theorem Below2.le {x n : Nat} (h : Below2 x n) (hx : x < 4294967296) : n ≤ 31 := by
  have : 2 ^ n < 2 ^ 32 := Nat.lt_of_le_of_lt h hx
  have := (Nat.pow_lt_pow_iff_right (by decide : 1 < 2)).1 this
  omega

set_option maxRecDepth 100000 in
theorem rlog_any (x : Nat) (hh : x < 4294967296) (w : World) :
    Calls Try.prog 57 #[.int .u32 x] w fun e w' => e = .returned (.int .u32 (lgx x)) ∧ w = w' := by
  by_cases h0 : x = 0
  · subst h0
    go_enter Try.func57, Try.ntmps57
    go_wp2
    go_ret
    exact ⟨rfl, rfl⟩
  have hx : ((x : Int) == 0) = false := by rw [beq_eq_false_iff_ne]; omega
  go_enter Try.func57, Try.ntmps57
  go_wp2
  go_loop [3] (fun vn => ∃ n : Nat, Below2 x n ∧ vn = .int .u32 n) (fun i => 32 - (intOf i).toNat)
  case atStart => exact ⟨0, by unfold Below2; omega, rfl⟩
  case round =>
    obtain ⟨n, hb, rfl⟩ := hrel
    have hn := hb.le hh
    by_cases ht : 2 ^ (n + 1) ≤ x
    · have hd : True → decide ((1 : Int) < (x : Int) / 2 ^ n) = true := fun _ => by rw [decide_eq_true_iff]; exact (shr_gt x n).2 ht
      have hb' : Below2 x (n + 1) := ht
      have hn' := hb'.le hh
      have H1 := Lib.hid ht; clear ht
      go_wp2
      go_round
      case rel => exact ⟨n + 1, hb', by go_num⟩
      case measure => simp [intOf]; omega
    · have hd : True → decide ((1 : Int) < (x : Int) / 2 ^ n) = false := fun _ => by rw [decide_eq_false_iff_not]; exact fun c => ht ((shr_gt x n).1 c)
      have en : Nat.log2 x = n := log2_eq hb (by omega)
      have HS := Lib.hid (Keeps.start0 hh)
      have HT := Lib.hid (lgx_sum (show 0 < x by omega))
      have eY : True → IntKind.u64.wrap ((x : Int) * 2 ^ (31 - n)) = ((x * 2 ^ (31 - n) : Nat) : Int) := fun _ => u64_start x hh _ en.symm
      rw [en] at HS HT
      generalize x * 2 ^ (31 - n) = Y at eY HS HT
      clear en ht hb
      go_wp2
      clear eY hd hh
      generalize lgF 16 Y 0 = T at HS HT
      go_loop [6, 4, 5] (fun vi vy vl => ∃ i y l : Nat, Keeps T i y l ∧ vi = .int .i64 i ∧ vl = .int .u32 l ∧ vy = .int .u64 y) (fun i _ _ => 16 - (intOf i).toNat)
      case atStart => exact ⟨0, Y, 0, HS.out, rfl, rfl, rfl⟩
      case round =>
        obtain ⟨i, y, l, hk, rfl, rfl, rfl⟩ := hrel
        have hl := hk.low
        have hi := hk.1
        have hy := hk.2.1
        by_cases hi16 : i < 16
        · have e1 : True → IntKind.u64.wrap ((y : Int) * (y : Int)) = ((y * y : Nat) : Int) := fun _ => u64_sq y hy
          have k1 := hk.small hi16
          have k2 := hk.big hi16
          have K1 := Lib.hid k1; have K2 := Lib.hid k2; clear k1 k2 hk hy
          generalize y * y = q at e1 K1 K2
          have e2 : True → (q : Int) / 2147483648 = ((q / 2147483648 : Nat) : Int) := fun _ => by omega
          generalize q / 2147483648 = r at e2 K1 K2
          by_cases hr : r < 4294967296
          · have hb : True → decide ((4294967296 : Int) ≤ (r : Int)) = false := fun _ => by simp; omega
            have Hr := Lib.hid hr; clear hr
            go_wp2
            go_round
            case rel => exact ⟨i + 1, r, l * 2, K1.out Hr.out, by go_num, by go_num, by go_num⟩
            case measure => simp [intOf]; omega
          · have hb : True → decide ((4294967296 : Int) ≤ (r : Int)) = true := fun _ => by simp; omega
            have Hr := Lib.hid hr; clear hr
            go_wp2
            go_round
            case rel => exact ⟨i + 1, r / 2, l * 2 + 1, K2.out Hr.out, by go_num, by go_num, by go_num⟩
            case measure => simp [intOf]; omega
        · have HF := Lib.hid (hk.fin hi16)
          clear hk
          go_wp2
          go_ret
          exact ⟨ret_u32 (by rw [← HT.out, ← HF.out]; simp), rfl⟩
end Go.Proofs.Ytngmcolbpdinmaa.hash
