/- The laws HashLogs and HashRises: for every input each returns true and leaves its arguments as they were. Conditions: none. -/
import Derived.Test.YtakcmdkhgaampaaRows
import Derived.Test.YtakcmdkhgaampaaHashAwake
import Derived.Test.YtakcmdkhgaampaaLift
namespace Go.Proofs.Ytakcmdkhgaampaa.laws
open Go.ChangeShapes Go.WideShapes Go.ChangeAt Go.RowKit
open Go.Proofs.Ytakcmdkhgaampaa.kit Go.Proofs.Ytakcmdkhgaampaa.hash
set_option linter.unusedVariables false

theorem own : ownKnob Try.prog.godebug = none := by kernel_rfl
theorem laidOut : laidOutB Try.prog = true := by kernel_rfl

/-! ### HashLogs -/
theorem walkLogs (x : Nat) (hx : x < 4294967296) (w : World) :
    Calls Try.prog 4 #[.int .u32 x] w fun e w' => e = .returned (.bool true) ∧ Below w.heap.size w w' := by
  go_enter Try.func4, Try.ntmps4
  go_wp2_with fail
  refine (log_any x hx _).mono ?_
  rintro e w' ⟨rfl, rfl⟩
  go_wp2_with fail
  refine (rlog_any x hx _).mono ?_
  rintro e w' ⟨rfl, rfl⟩
  go_wp2_with fail
  refine (awake_any _).mono ?_
  rintro e w' ⟨rfl, hb⟩
  have HB := Lib.hid hb
  clear hb
  go_wp2
  go_ret
  exact ⟨rfl, HB.out⟩

set_option maxRecDepth 100000 in
theorem liftedLogs (os : Os) (started : os.Started) (H : Type) (enc : TypeId × Value → H) :
    ReturnsInHanded {} Try.checked os 4 .any (Rows.hashLogsSpec.pre6 enc Try.prog Try.f4 Rows.hashLogsRow.domain false) (Rows.hashLogsSpec.post enc Try.prog Try.f4 false true false false) := by
  refine lift.law (C := Try.checked) own started (by kernel_rfl) Try.func4
    (ChangeSpec.witness6 (enc := enc) (C := Try.checked) false ⟨#[], #[.int .u32 0], []⟩ 8 (by kernel_rfl) (by kernel_rfl) (by kernel_rfl) (by kernel_rfl)) laidOut (by kernel_rfl) 4 Try.underlying4 (by kernel_rfl) rfl ?_ ?_
  · intro ds hd
    match ds, hd with
    | [_], _ => rfl
  · intro W base args ds ps hg
    have hA : DataW.TrodAll enc Try.prog W 0 (fun _ => true) true Try.f4.params.toList args.toList ds ps := hg.read
    have hval : ∀ (j : Nat) t v, Try.f4.params[j]? = some t → args[j]? = some v → Value.okWide Try.prog W .any base t v := hg.ok
    rw [Try.params4] at hA hval
    obtain ⟨v0, vs0, d0, ds0, p0, q0, hargs, rfl, rfl, h0, r0⟩ := trodAll_cons hA
    obtain ⟨rfl, rfl, rfl⟩ := trodAll_nil r0
    obtain rfl : args = #[v0] := by cases args; simp_all
    obtain ⟨a0, rfl, rfl, rfl, w0⟩ := open_int Try.underlying24 (hval 0 24 v0 rfl rfl) h0
    have hb := u32_pos a0 w0
    obtain ⟨n, rfl⟩ := Int.eq_ofNat_of_zero_le hb.1
    exact walkLogs n (by omega) W

theorem logs_holds : Rows.HashLogsSaid :=
  OpenClaim.holds_of_wide 4 Try.f4 rfl rfl rfl rfl rfl rfl rfl ⟨rfl, rfl, rfl, rfl, rfl⟩ rfl rfl rfl rfl rfl (by kernel_rfl) Try.func4 (by kernel_rfl)
    (of_decide_eq_true (by kernel_rfl)) (by unfold Func.isWrapper; first | (rw [if_pos (by decide +kernel)]; kernel_rfl) | (rw [if_neg (by decide +kernel)]; exact ⟨rfl, rfl⟩))
    (fun os started H enc _ => liftedLogs os started H enc)

#print axioms logs_holds
/-! ### HashRises -/
theorem log_i (z : Int) (h0 : 0 ≤ z) (h1 : z < 4294967296) (w : World) :
    Calls Try.prog 16 #[.int .u32 z] w fun e w' => e = .returned (.int .u32 (hm.lgx z.toNat)) ∧ w = w' := by
  obtain ⟨n, rfl⟩ := Int.eq_ofNat_of_zero_le h0
  simpa using log_any n (by omega) w

theorem pow32 (k : Nat) (hk : k < 32) : ((2 : Int) ^ k % 4294967296) = ((2 ^ k : Nat) : Int) ∧ hm.lgx (2 ^ k) = k * 65536 ∧ 2 ^ k < 4294967296 := by
  have h : 2 ^ k < 2 ^ 32 := Nat.pow_lt_pow_of_lt (by decide) hk
  refine ⟨?_, hm.lgx_pow ⟨k, hk⟩, h⟩
  have e : ((2 : Int) ^ k) = ((2 ^ k : Nat) : Int) := by simp
  rw [e]
  generalize 2 ^ k = m at *
  omega

/-- How two words and their logarithms stand to each other. -/
def Ord (x y A B : Nat) : Prop := (x ≤ y ∧ y ≤ x ∧ A ≤ B ∧ B ≤ A) ∨ (x ≤ y ∧ ¬ y ≤ x ∧ A ≤ B) ∨ (¬ x ≤ y ∧ y ≤ x ∧ B ≤ A)
theorem ord_mk (x y : Nat) : Ord x y (hm.lgx x) (hm.lgx y) := by
  have h1 := hm.lgx_mono x y
  have h2 := hm.lgx_mono y x
  unfold Ord
  by_cases a : x ≤ y <;> by_cases b : y ≤ x <;> simp_all <;> omega

set_option maxHeartbeats 4000000 in
theorem risesD (x y A B : Nat) (HX : Hid (x < 4294967296)) (HA : A < 2097152) (ho : Ord x y A B) (c0 : 0 < x) (C1 : Hid (x < 2147483648)) (HD : Hid (hm.lgx (2 * x) = A + 65536))
    (HLX : Hid (∀ w, Calls Try.prog 16 #[.int .u32 x] w fun e w' => e = .returned (.int .u32 A) ∧ w = w'))
    (HLY : Hid (∀ w, Calls Try.prog 16 #[.int .u32 y] w fun e w' => e = .returned (.int .u32 B) ∧ w = w')) (w : World) :
    Calls Try.prog 5 #[.int .u32 x, .int .u32 y] w fun e w' => e = .returned (.bool true) ∧ Below w.heap.size w w' := by
  have hs : True → decide ((x : Int) < 2147483648) = true := fun _ => by have := C1.out; simp; omega
  have hm3 : True → 2 * (x : Int) % 4294967296 = 2 * (x : Int) := fun _ => by have := C1.out; omega
  obtain ⟨k, hk, ek, hA⟩ : ∃ k : Nat, k < 32 ∧ (True → (y : Int) % 32 = (k : Int)) ∧ (True → decide ((A : Int) < 2097152) = true) := ⟨y % 32, by omega, fun _ => by omega, fun _ => by simp; omega⟩
  rcases ho with ⟨h1, h2, h3, h4⟩ | ⟨h1, h2, h3⟩ | ⟨h1, h2, h3⟩
  all_goals
    go_enter Try.func5, Try.ntmps5
    go_wp2_with fail
    refine (HLX.out _).mono ?_
    rintro e w' ⟨rfl, rfl⟩
    go_wp2_with fail
    refine (HLY.out _).mono ?_
    rintro e w' ⟨rfl, rfl⟩
    go_wp2_with fail
    refine (log_i _ (by omega) (by have := C1.out; omega) _).mono ?_
    rintro e w' ⟨rfl, rfl⟩
    rw [show (2 * (x : Int)).toNat = 2 * x from by omega, HD.out]
    go_wp2_with fail
    rw [(pow32 k hk).1]
    refine (log_any (2 ^ k) (pow32 k hk).2.2 _).mono ?_
    rintro e w' ⟨rfl, rfl⟩
    rw [(pow32 k hk).2.1]
    go_wp2_with fail
    refine (awake_any _).mono ?_
    rintro e w' ⟨rfl, hb⟩
    have HB := Lib.hid hb
    clear hb
    go_wp2
    go_ret
    exact ⟨rfl, HB.out⟩

set_option maxHeartbeats 4000000 in
theorem risesN (x y A B : Nat) (HX : Hid (x < 4294967296)) (HA : A < 2097152) (ho : Ord x y A B) (hz : x ≤ 0 ∨ 0 < x ∧ (True → decide ((x : Int) < 2147483648) = false))
    (HLX : Hid (∀ w, Calls Try.prog 16 #[.int .u32 x] w fun e w' => e = .returned (.int .u32 A) ∧ w = w'))
    (HLY : Hid (∀ w, Calls Try.prog 16 #[.int .u32 y] w fun e w' => e = .returned (.int .u32 B) ∧ w = w')) (w : World) :
    Calls Try.prog 5 #[.int .u32 x, .int .u32 y] w fun e w' => e = .returned (.bool true) ∧ Below w.heap.size w w' := by
  obtain ⟨k, hk, ek, hA⟩ : ∃ k : Nat, k < 32 ∧ (True → (y : Int) % 32 = (k : Int)) ∧ (True → decide ((A : Int) < 2097152) = true) := ⟨y % 32, by omega, fun _ => by omega, fun _ => by simp; omega⟩
  rcases hz with hz | ⟨hz0, hz⟩
  all_goals rcases ho with ⟨h1, h2, h3, h4⟩ | ⟨h1, h2, h3⟩ | ⟨h1, h2, h3⟩
  all_goals try (exfalso; omega)
  all_goals
    go_enter Try.func5, Try.ntmps5
    go_wp2_with fail
    refine (HLX.out _).mono ?_
    rintro e w' ⟨rfl, rfl⟩
    go_wp2_with fail
    refine (HLY.out _).mono ?_
    rintro e w' ⟨rfl, rfl⟩
    go_wp2_with fail
    rw [(pow32 k hk).1]
    refine (log_any (2 ^ k) (pow32 k hk).2.2 _).mono ?_
    rintro e w' ⟨rfl, rfl⟩
    rw [(pow32 k hk).2.1]
    go_wp2_with fail
    refine (awake_any _).mono ?_
    rintro e w' ⟨rfl, hb⟩
    have HB := Lib.hid hb
    clear hb
    go_wp2
    go_ret
    exact ⟨rfl, HB.out⟩

theorem walkRises (x y : Nat) (hx : x < 4294967296) (hy : y < 4294967296) (w : World) :
    Calls Try.prog 5 #[.int .u32 x, .int .u32 y] w fun e w' => e = .returned (.bool true) ∧ Below w.heap.size w w' := by
  by_cases c : 0 < x ∧ x < 2147483648
  · exact risesD x y _ _ hx (hm.lgx_lt x hx) (ord_mk x y) c.1 c.2 (hm.lgx_double x c.1 c.2) (log_any x hx) (log_any y hy) w
  · exact risesN x y _ _ hx (hm.lgx_lt x hx) (ord_mk x y) (by
      by_cases h0 : 0 < x
      · exact .inr ⟨h0, fun _ => by simp; omega⟩
      · exact .inl (by omega)) (log_any x hx) (log_any y hy) w

set_option maxRecDepth 100000 in
theorem liftedRises (os : Os) (started : os.Started) (H : Type) (enc : TypeId × Value → H) :
    ReturnsInHanded {} Try.checked os 5 .any (Rows.hashRisesSpec.pre6 enc Try.prog Try.f5 Rows.hashRisesRow.domain false) (Rows.hashRisesSpec.post enc Try.prog Try.f5 false true false false) := by
  refine lift.law (C := Try.checked) own started (by kernel_rfl) Try.func5
    (ChangeSpec.witness6 (enc := enc) (C := Try.checked) false ⟨#[], #[.int .u32 0, .int .u32 0], []⟩ 8 (by kernel_rfl) (by kernel_rfl) (by kernel_rfl) (by kernel_rfl)) laidOut (by kernel_rfl) 4 Try.underlying4 (by kernel_rfl) rfl ?_ ?_
  · intro ds hd
    match ds, hd with
    | [_, _], _ => rfl
  · intro W base args ds ps hg
    have hA : DataW.TrodAll enc Try.prog W 0 (fun _ => true) true Try.f5.params.toList args.toList ds ps := hg.read
    have hval : ∀ (j : Nat) t v, Try.f5.params[j]? = some t → args[j]? = some v → Value.okWide Try.prog W .any base t v := hg.ok
    rw [Try.params5] at hA hval
    obtain ⟨v0, vs0, d0, ds0, p0, q0, hargs, rfl, rfl, h0, r0⟩ := trodAll_cons hA
    obtain ⟨v1, vs1, d1, ds1, p1, q1, rfl, rfl, rfl, h1, r1⟩ := trodAll_cons r0
    obtain ⟨rfl, rfl, rfl⟩ := trodAll_nil r1
    obtain rfl : args = #[v0, v1] := by cases args; simp_all
    obtain ⟨a0, rfl, rfl, rfl, w0⟩ := open_int Try.underlying24 (hval 0 24 v0 rfl rfl) h0
    obtain ⟨a1, rfl, rfl, rfl, w1⟩ := open_int Try.underlying24 (hval 1 24 v1 rfl rfl) h1
    have hb := u32_pos a0 w0
    obtain ⟨n, rfl⟩ := Int.eq_ofNat_of_zero_le hb.1
    have hb1 := u32_pos a1 w1
    obtain ⟨m, rfl⟩ := Int.eq_ofNat_of_zero_le hb1.1
    exact walkRises n m (by omega) (by omega) W

theorem rises_holds : Rows.HashRisesSaid :=
  OpenClaim.holds_of_wide 5 Try.f5 rfl rfl rfl rfl rfl rfl rfl ⟨rfl, rfl, rfl, rfl, rfl⟩ rfl rfl rfl rfl rfl (by kernel_rfl) Try.func5 (by kernel_rfl)
    (of_decide_eq_true (by kernel_rfl)) (by unfold Func.isWrapper; first | (rw [if_pos (by decide +kernel)]; kernel_rfl) | (rw [if_neg (by decide +kernel)]; exact ⟨rfl, rfl⟩))
    (fun os started H enc _ => liftedRises os started H enc)

#print axioms rises_holds
end Go.Proofs.Ytakcmdkhgaampaa.laws
