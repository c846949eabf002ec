/- The law's own helpers: numbers compared, a first part, the chapter's examples. -/
import Derived.Test.YtngmcolbpdinmaaRows
import Derived.Test.YtngmcolbpdinmaaRulePl
import Derived.Test.YtngmcolbpdinmaaRuleAwM
namespace Go.Proofs.Ytngmcolbpdinmaa.crush
open Go.RowKit
open Go.Proofs.Ytngmcolbpdinmaa.kit Go.Proofs.Ytngmcolbpdinmaa.own
set_option linter.unusedVariables false

set_option maxHeartbeats 8000000 in
set_option maxRecDepth 100000 in
theorem lintsR_any (va vb : Value) (ns : List Int) (w : World) (ha : Sl ic 1 w va ns) (hb : Sl ic 1 w vb ns) :
    Calls Try.prog 6 #[va, vb] w fun e w' => e = .returned (.bool true) ∧ Below w.heap.size w w' := by
  obtain ⟨hl, a1, c1, rfl, -, ha⟩ := ha
  obtain ⟨-, a2, c2, rfl, -, hb⟩ := hb
  obtain ⟨L, hL⟩ : ∃ L, ns.length = L := ⟨_, rfl⟩
  have HL := Lib.hid hL
  have HA := Lib.hid ha; have HBb := Lib.hid hb
  rw [hL] at hl ⊢
  have mixed : Try.prog.follows .mixedOrders = true := by kernel_rfl
  clear hL ha hb
  go_enter Try.func6, Try.ntmps6
  go_wp2
  go_loopw [5] (fun vi wr => ∃ k : Nat, k ≤ L ∧ vi = .int .i64 k ∧ Below w.heap.size w wr) (fun i _ => L - (intOf i).toNat)
  case atStart => exact ⟨0, by omega, rfl, Below.refl _ _⟩
  case round =>
    obtain ⟨k, hk, rfl, hbw⟩ := hrel
    have HB := Lib.hid hbw
    clear hbw
    by_cases hlt : k < L
    · have hlt' : (k : Int) < L := by omega
      have hk0 : (0 : Int) ≤ k := by omega
      have hi : k < ns.length := by rw [HL.out]; exact hlt
      obtain ⟨b1, o1, rfl, hbl1, h1⟩ := HA.out (by omega)
      obtain ⟨b2, o2, rfl, hbl2, h2⟩ := HBb.out (by omega)
      have d1 := icell_at (range_keep (h1 k hi) hbl1 HB.out)
      have d2 := icell_at (range_keep (h2 k hi) hbl2 HB.out)
      rw [Nat.mul_one] at d1 d2
      generalize ns[k] = z at d1 d2
      clear h1 h2 hbl1 hbl2
      go_upto_region 6 with fail
      go_quiet (fail)
      have HB2 := Lib.hid (HB.out.drewN' nq)
      clear d1 d2
      go_wp2
      go_roundw
      case rel => exact ⟨k + 1, by omega, by go_num, HB2.out⟩
      case measure => simp [intOf]; omega
    · obtain rfl : k = L := by omega
      go_wp2
      go_ret
      exact ⟨rfl, HB.out⟩

/-- The slice has room for what it holds. -/
def CapOk (v : Value) (n : Nat) : Prop := ∃ a c, v = .slice a n c ∧ n ≤ c ∧ c ≤ 9223372036854775807
set_option maxHeartbeats 4000000 in
theorem few_any (v : Value) (xs : List Int) (k : Nat) (hk : k ≤ 1000) (w : World) (h : Sl ic 1 w v xs) (hc : CapOk v xs.length) : Calls Try.prog 5 #[v, .int .i64 k] w fun e w' => (∃ v', e = .returned v' ∧ Sl ic 1 w v' (xs.take k)) ∧ w' = w := by
  obtain ⟨a, c, rfl, hc1, hc2⟩ := hc
  have hl := h.1
  cases a with
  | none =>
    obtain ⟨rfl, -, rfl⟩ := h.empty_of_nil
    have HR := Lib.hid (show Sl ic 1 w (.slice none 0 0) (([] : List Int).take k) from by rw [List.take_nil]; exact Sl.nil _)
    simp only [List.length_nil]
    clear h hc1 hc2 hl
    have hk0 : (0 : Int) ≤ k := by omega
    go_enter Try.func5, Try.ntmps5
    go_wp2
    go_ret
    first | exact ⟨⟨_, rfl, HR.out⟩, rfl⟩ | (refine ⟨⟨.slice none 0 0, ?_, HR.out⟩, rfl⟩; simp)
  | some a =>
    obtain ⟨m, hm⟩ : ∃ m, min xs.length k = m := ⟨_, rfl⟩
    have HR := Lib.hid (show Sl ic 1 w (.slice (some a) m c) (xs.take k) from by
      have h1 := sl_takeL h rfl m (by omega)
      have e : xs.take m = xs.take k := by rw [← hm, List.take_eq_take_iff]; simp; omega
      rw [← e]; exact h1)
    have hmi : min (xs.length : Int) k = m := by omega
    have hm0 : (0 : Int) ≤ m := by omega
    have hmc : m ≤ c := by omega
    generalize xs.length = L at h hc1 hmi ⊢
    clear h hm hl
    go_enter Try.func5, Try.ntmps5
    go_wp2
    go_ret
    exact ⟨⟨_, rfl, HR.out⟩, rfl⟩

theorem sl_lit (w : World) (xs : List Int) (hl : xs.length ≤ 1000) (e : Nat) : Sl ic 1 (w.alloc (.cells (xs.map (Value.int .i64)).toArray e)) (.slice (some ⟨w.heap.size, 0, none⟩) xs.length xs.length) xs := by
  refine ⟨by omega, _, _, rfl, fun h => (by cases h), fun _ => ⟨w.heap.size, 0, rfl, by simp, fun j hj i u hu => ?_⟩⟩
  match i, hu with
  | 0, hu =>
    rw [World.cell?_alloc_at _ _ _ _ rfl]
    simp [ic] at hu
    subst hu
    simp [hj]
  | i + 1, hu => simp [ic] at hu

set_option maxHeartbeats 16000000 in
set_option maxRecDepth 100000 in
theorem awake_any (w : World) : Calls Try.prog 11 #[] w fun e w' => e = .returned (.bool true) ∧ Below w.heap.size w w' := by
  have hI : ∀ z : Int, z = 1 ∨ z = 2 → I64 z := by intro z h; unfold I64; omega
  have b1 := below_new w (.cells #[.int .i64 0, .int .i64 0] 3)
  have s1 : Sl ic 1 (w.alloc (.cells #[.int .i64 0, .int .i64 0] 3)) (.slice (some ⟨w.heap.size, 0, none⟩) 2 2) [0, 0] := sl_lit w [0, 0] (by decide) _
  have b2 := below_new (w.alloc (.cells #[.int .i64 0, .int .i64 0] 3)) (.cells #[.int .i64 65536, .int .i64 65536] 2)
  have s2 : Sl ic 1 ((w.alloc (.cells #[.int .i64 0, .int .i64 0] 3)).alloc (.cells #[.int .i64 65536, .int .i64 65536] 2)) (.slice (some ⟨w.heap.size + 1, 0, none⟩) 2 2) [65536, 65536] := by
    have := sl_lit (w.alloc (.cells #[.int .i64 0, .int .i64 0] 3)) [65536, 65536] (by decide) 2
    rw [World.size_alloc] at this
    exact this
  have HS1 := Lib.hid (s1.keep b2); have HS2 := Lib.hid s2; have HB := Lib.hid (b1.trans (b2.mono b1.size))
  clear b1 s1 b2 s2
  go_enter Try.func11, Try.ntmps11
  go_wp2_with fail
  refine (Place_any _ _ [0, 0] [65536, 65536] 7 2 2 (by decide) _ HS1.out HS2.out (by decide) (hI 2 (.inr rfl))).mono ?_
  rintro e w1 ⟨v1, rfl, ho, hb⟩
  obtain ⟨a1, c1, rfl⟩ := ho.slice
  rw [ints_len, aw_l]
  have HB1 := Lib.hid (HB.out.trans (hb.mono HB.out.size))
  clear ho hb HS1 HS2 HB
  have b1 := below_new w1 (.cells #[.int .i64 0, .int .i64 1] 3)
  have s1 : Sl ic 1 (w1.alloc (.cells #[.int .i64 0, .int .i64 1] 3)) (.slice (some ⟨w1.heap.size, 0, none⟩) 2 2) [0, 1] := sl_lit w1 [0, 1] (by decide) _
  have b2 := below_new (w1.alloc (.cells #[.int .i64 0, .int .i64 1] 3)) (.cells #[.int .i64 65536, .int .i64 65536] 2)
  have s2 : Sl ic 1 ((w1.alloc (.cells #[.int .i64 0, .int .i64 1] 3)).alloc (.cells #[.int .i64 65536, .int .i64 65536] 2)) (.slice (some ⟨w1.heap.size + 1, 0, none⟩) 2 2) [65536, 65536] := by
    have := sl_lit (w1.alloc (.cells #[.int .i64 0, .int .i64 1] 3)) [65536, 65536] (by decide) 2
    rw [World.size_alloc] at this
    exact this
  have HS1 := Lib.hid (s1.keep b2); have HS2 := Lib.hid s2; have HB := Lib.hid (HB1.out.trans ((b1.trans (b2.mono b1.size)).mono HB1.out.size))
  clear b1 s1 b2 s2 HB1
  go_upto_region 2 with fail
  go_wp2_with fail
  refine (Place_any _ _ [0, 1] [65536, 65536] 7 1 1 (by decide) _ HS1.out HS2.out (by decide) (hI 1 (.inl rfl))).mono ?_
  rintro e w2 ⟨v2, rfl, ho, hb⟩
  obtain ⟨a2, c2, rfl⟩ := ho.slice
  rw [ints_len, aw_n]
  have HB2 := Lib.hid (HB.out.trans (hb.mono HB.out.size))
  clear ho hb HS1 HS2 HB
  have b1 := below_new w2 (.cells #[.int .i64 0, .int .i64 0, .int .i64 1, .int .i64 1] 3)
  have s1 : Sl ic 1 (w2.alloc (.cells #[.int .i64 0, .int .i64 0, .int .i64 1, .int .i64 1] 3)) (.slice (some ⟨w2.heap.size, 0, none⟩) 4 4) [0, 0, 1, 1] := sl_lit w2 [0, 0, 1, 1] (by decide) _
  have b2 := below_new (w2.alloc (.cells #[.int .i64 0, .int .i64 0, .int .i64 1, .int .i64 1] 3)) (.cells #[.int .i64 1, .int .i64 0, .int .i64 0, .int .i64 0] 2)
  have s2 : Sl ic 1 ((w2.alloc (.cells #[.int .i64 0, .int .i64 0, .int .i64 1, .int .i64 1] 3)).alloc (.cells #[.int .i64 1, .int .i64 0, .int .i64 0, .int .i64 0] 2)) (.slice (some ⟨w2.heap.size + 1, 0, none⟩) 4 4) [1, 0, 0, 0] := by
    have := sl_lit (w2.alloc (.cells #[.int .i64 0, .int .i64 0, .int .i64 1, .int .i64 1] 3)) [1, 0, 0, 0] (by decide) 2
    rw [World.size_alloc] at this
    exact this
  have HS1 := Lib.hid (s1.keep b2); have HS2 := Lib.hid s2; have HB := Lib.hid (HB2.out.trans ((b1.trans (b2.mono b1.size)).mono HB2.out.size))
  clear b1 s1 b2 s2 HB2
  go_upto_region 3 with fail
  go_wp2_with fail
  refine (Most_any _ _ [0, 0, 1, 1] [1, 0, 0, 0] 2 1 _ HS1.out HS2.out (by decide) (hI 2 (.inr rfl))).mono ?_
  rintro e w3 ⟨rfl, hb⟩
  rw [aw_m]
  have HB3 := Lib.hid (HB.out.trans (hb.mono HB.out.size))
  clear hb HS1 HS2 HB
  have b1 := below_new w3 (.cells #[.int .i64 0] 3)
  have s1 : Sl ic 1 (w3.alloc (.cells #[.int .i64 0] 3)) (.slice (some ⟨w3.heap.size, 0, none⟩) 1 1) [0] := sl_lit w3 [0] (by decide) _
  have HS1 := Lib.hid s1; have HB := Lib.hid (HB3.out.trans (b1.mono HB3.out.size))
  clear b1 s1 HB3
  go_wp2_with fail
  refine (Place_any _ _ [0] [] 1 1 1 (by decide) _ HS1.out (Sl.nil _) (by decide) (hI 1 (.inl rfl))).mono ?_
  rintro e w4 ⟨v4, rfl, ho, hb⟩
  obtain ⟨a4, c4, rfl⟩ := ho.slice
  rw [ints_len, aw_0]
  have HB4 := Lib.hid (HB.out.trans (hb.mono HB.out.size))
  clear ho hb HS1 HB
  have b1 := below_new w4 (.cells #[.int .i64 3, .int .i64 1, .int .i64 3] 3)
  have s1 : Sl ic 1 (w4.alloc (.cells #[.int .i64 3, .int .i64 1, .int .i64 3] 3)) (.slice (some ⟨w4.heap.size, 0, none⟩) 3 3) [3, 1, 3] := sl_lit w4 [3, 1, 3] (by decide) _
  have HS1 := Lib.hid s1; have HB := Lib.hid (HB4.out.trans (b1.mono HB4.out.size))
  clear b1 s1 HB4
  simp only [List.length_nil]
  go_wp2_with fail
  refine (Hosts_any _ [3, 1, 3] _ HS1.out (by decide)).mono ?_
  rintro e w5 ⟨v5, rfl, ho, hb⟩
  rw [aw_h] at ho
  obtain ⟨a5, c5, rfl⟩ := ho.slice
  have HB5 := Lib.hid (HB.out.trans (hb.mono HB.out.size))
  have HO5 := Lib.hid (ho.read ic_len)
  clear ho hb HS1 HB
  have b1 := below_new w5 (.cells #[.int .i64 1, .int .i64 3] 3)
  have s1 : Sl ic 1 (w5.alloc (.cells #[.int .i64 1, .int .i64 3] 3)) (.slice (some ⟨w5.heap.size, 0, none⟩) 2 2) [1, 3] := sl_lit w5 [1, 3] (by decide) _
  have HS1 := Lib.hid s1; have HB := Lib.hid (HB5.out.trans (b1.mono HB5.out.size))
  have HS5 := Lib.hid (HO5.out.keep b1)
  clear b1 s1 HB5 HO5
  go_wp2_with fail
  refine (lintsR_any _ _ [1, 3] _ HS5.out HS1.out).mono ?_
  rintro e w6 ⟨rfl, hb⟩
  have HB6 := Lib.hid (HB.out.trans (hb.mono HB.out.size))
  clear hb
  go_wp2
  go_ret
  exact ⟨rfl, HB6.out⟩
end Go.Proofs.Ytngmcolbpdinmaa.crush
