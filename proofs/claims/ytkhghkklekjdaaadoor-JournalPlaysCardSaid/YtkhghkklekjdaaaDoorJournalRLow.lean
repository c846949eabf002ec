/- The document's journal: its smallest functions. -/
import Derived.Test.YtkhghkklekjdaaaDoorRows
import Derived.Test.YtkhghkklekjdaaaDoorJournalLow
namespace Go.Proofs.YtkhghkklekjdaaaDoor.journal
open Go.RowKit
open Go.Proofs.YtkhghkklekjdaaaDoor.kit Go.Proofs.YtkhghkklekjdaaaDoor.own Go.Proofs.YtkhghkklekjdaaaDoor.jm
open Go.Proofs.YtkhghkklekjdaaaDoor.fm (crc or_add take_snoc' lowN)
open Go.Proofs.YtkhghkklekjdaaaDoor.frame (byte_at Nib)
set_option linter.unusedVariables false

set_option maxRecDepth 100000 in
theorem rNeed_any (z : Int) (w : World) (h1 : -9223372036854775808 ≤ z) (h2 : z ≤ 9223372036854775807) : Calls Tryd.prog 29 #[.int .i64 z] w fun e w' => e = .returned (.int .i64 (need z.toNat : Nat)) ∧ w = w' := by
  by_cases hz : z ≤ 47
  · have he : need z.toNat = 1 := by unfold need; rw [if_pos (by omega)]
    rw [he]
    clear h1 h2 he
    go_enter Tryd.func29, Tryd.ntmps29
    go_wp2
    go_ret
    exact ⟨rfl, rfl⟩
  · obtain ⟨n, rfl⟩ := Int.eq_ofNat_of_zero_le (show 0 ≤ z by omega)
    have he : need n = 2 + (n - 48) / 55 := by unfold need; rw [if_neg (by omega)]
    rw [Int.toNat_natCast, he]
    obtain ⟨m, rfl⟩ : ∃ m, n = m + 47 := ⟨n - 47, by omega⟩
    have hb : m ≤ 9223372036854775760 := by omega
    have e1 : True → wrap64 (((m + 47 : Nat) : Int) - 47) = (m : Int) := fun _ => by unfold wrap64; omega
    have e1' : True → IntKind.i64.wrap (((m + 47 : Nat) : Int) - 47) = (m : Int) := fun _ => by rw [IntKind.wrap_i64]; omega
    have hz' : ¬ ((m + 47 : Nat) : Int) ≤ 47 := by omega
    have hr : 0 < m := by omega
    by_cases hm : 0 < m % 55
    · have e3 : 2 + (m + 47 - 48) / 55 = 1 + (m / 55 + 1) := by omega
      rw [e3]
      have e4 : True → wrap64 (((m / 55 : Nat) : Int) + 1) = ((m / 55 + 1 : Nat) : Int) := fun _ => by unfold wrap64; omega
      have e5 : True → wrap64 (1 + ((m / 55 + 1 : Nat) : Int)) = ((1 + (m / 55 + 1) : Nat) : Int) := fun _ => by unfold wrap64; omega
      have e6 : True → (m : Int).tdiv 55 = ((m / 55 : Nat) : Int) := fun _ => by rw [Int.tdiv_eq_ediv_of_nonneg (by omega)]; omega
      have e6' : True → wrap64 ((m / 55 : Nat) : Int) = ((m / 55 : Nat) : Int) := fun _ => by unfold wrap64; omega
      have e7 : True → (m : Int).tmod 55 = ((m % 55 : Nat) : Int) := fun _ => by rw [Int.tmod_eq_emod_of_nonneg (by omega)]; omega
      have hm' : (0 : Int) < ((m % 55 : Nat) : Int) := by omega
      clear h1 h2 he hb hz e3 hr hm
      generalize 1 + (m / 55 + 1) = r1 at e5 ⊢
      generalize m / 55 + 1 = r0 at e4 e5
      generalize m / 55 = r at e4 e6 e6'
      generalize m % 55 = r2 at e7 hm'
      generalize m + 47 = m2 at e1 e1' hz' ⊢
      generalize (m : Int) = mi at *
      go_enter Tryd.func29, Tryd.ntmps29
      go_wp2
      go_ret
      exact ⟨rfl, rfl⟩
    · have e3 : 2 + (m + 47 - 48) / 55 = 1 + m / 55 := by omega
      rw [e3]
      have e5 : True → wrap64 (1 + ((m / 55 : Nat) : Int)) = ((1 + (m / 55) : Nat) : Int) := fun _ => by unfold wrap64; omega
      have e6 : True → (m : Int).tdiv 55 = ((m / 55 : Nat) : Int) := fun _ => by rw [Int.tdiv_eq_ediv_of_nonneg (by omega)]; omega
      have e6' : True → wrap64 ((m / 55 : Nat) : Int) = ((m / 55 : Nat) : Int) := fun _ => by unfold wrap64; omega
      have e7 : True → (m : Int).tmod 55 = ((m % 55 : Nat) : Int) := fun _ => by rw [Int.tmod_eq_emod_of_nonneg (by omega)]; omega
      have hm' : ¬ (0 : Int) < ((m % 55 : Nat) : Int) := by omega
      clear h1 h2 he hb hz e3 hr hm
      generalize 1 + m / 55 = r1 at e5 ⊢
      generalize m / 55 = r at e5 e6 e6'
      generalize m % 55 = r2 at e7 hm'
      generalize m + 47 = m2 at e1 e1' hz' ⊢
      generalize (m : Int) = mi at *
      go_enter Tryd.func29, Tryd.ntmps29
      go_wp2
      go_ret
      exact ⟨rfl, rfl⟩

theorem ofLe_drop (m : List Nat) (k : Nat) (hk : k < m.length) : ofLe (m.drop k) = m.getD k 0 + 256 * ofLe (m.drop (k + 1)) := by
  rw [List.drop_eq_getElem_cons hk]
  simp [ofLe, List.getD, hk]
theorem shl_or (x c : Nat) (hx : x * 256 < 18446744073709551616) (hc : c < 256) : bits BinOp.or IntKind.u64 ((x * 256 : Nat) : Int) (c : Int) = ((c + 256 * x : Nat) : Int) := by
  have h := u64_or_nat (x * 256) c hx (by omega)
  rw [h]
  congr 1
  rw [Nat.or_comm, show (256 : Nat) = 2 ^ 8 from rfl, or_add 8 c x hc, Nat.mul_comm]

set_option maxHeartbeats 4000000 in
set_option maxRecDepth 100000 in
theorem number_any (v : Value) (m : List Nat) (w : World) (hv : SlI w .u8 v m) (h8 : ∀ n ∈ m, n < 256) (hlen : m.length ≤ 8) :
    Calls Tryd.prog 54 #[v] w fun e w' => e = .returned (.int .u64 (ofLe m : Nat)) ∧ w = w' := by
  obtain ⟨hl, a, cap, rfl, hc⟩ := id hv
  have HC := Lib.hid hc; have H8 := Lib.hid h8; have HLen := Lib.hid hlen
  obtain ⟨L, hL⟩ : ∃ L, m.length = L := ⟨_, rfl⟩
  have HL := Lib.hid hL
  rw [hL] at hl hlen ⊢
  clear hc h8 hv hL
  have e0 : True → wrap64 ((L : Int) - 1) = (L : Int) - 1 := fun _ => by unfold wrap64; omega
  go_enter Tryd.func54, Tryd.ntmps54
  go_wp2
  go_loop [3, 4] (fun vx vi => ∃ k : Nat, k ≤ L ∧ vi = .int .i64 ((k : Int) - 1) ∧ vx = .int .u64 (ofLe (m.drop k) : Nat)) (fun _ i => (intOf i + 1).toNat)
  case atStart => exact ⟨L, Nat.le_refl _, rfl, by rw [List.drop_of_length_le (by have := HL.out; omega)]; rfl⟩
  case round =>
    obtain ⟨k, hkn, rfl, rfl⟩ := hrel
    cases k with
    | zero =>
      have h0 : ¬ (0 : Int) ≤ ((0 : Nat) : Int) - 1 := by omega
      go_wp2
      go_ret
      exact ⟨rfl, rfl⟩
    | succ k =>
      obtain ⟨b, off, ha, hcell⟩ := HC.out (by rw [HL.out]; omega)
      subst ha
      have hc1 := hcell k (by rw [HL.out]; omega)
      have hm := byte_at m H8.out k
      have hx := ofLe_lt (m.drop (k + 1)) (fun b hb => H8.out b (List.mem_of_mem_drop hb))
      rw [List.length_drop, HL.out] at hx
      have hx2 : ofLe (m.drop (k + 1)) * 256 < 18446744073709551616 := by
        have h1 : (256 : Nat) ^ (L - (k + 1)) ≤ 256 ^ 7 := Nat.pow_le_pow_right (by decide) (by omega)
        have h2 : (256 : Nat) ^ 7 * 256 = 18446744073709551616 := by decide
        omega
      have HD := Lib.hid (ofLe_drop m k (by rw [HL.out]; omega))
      generalize ofLe (m.drop (k + 1)) = x at hx2 HD ⊢
      generalize m.getD k 0 = c at hc1 hm HD
      have e1 : True → IntKind.u64.wrap ((x : Int) * 256) = ((x * 256 : Nat) : Int) := fun _ => by rw [IntKind.wrap_u64]; omega
      have e2 : True → bits BinOp.or IntKind.u64 ((x * 256 : Nat) : Int) (c : Int) = ((c + 256 * x : Nat) : Int) := fun _ => shl_or x c hx2 hm
      have e3 : True → IntKind.u64.wrap (c : Int) = (c : Int) := fun _ => by rw [IntKind.wrap_u64]; omega
      have e4 : True → wrap64 (((k + 1 : Nat) : Int) - 1) = (k : Int) := fun _ => by unfold wrap64; omega
      have e5 : ((k + 1 : Nat) : Int) - 1 = (k : Int) := by omega
      have e6 : True → wrap64 ((k : Int) - 1) = (k : Int) - 1 := fun _ => by unfold wrap64; omega
      have hk0 : (0 : Int) ≤ (k : Int) := by omega
      have hkL : (k : Int) < (L : Int) := by omega
      have HKn := Lib.hid hkn
      generalize c + 256 * x = y at e2 HD
      generalize ((x * 256 : Nat) : Int) = x2 at e1 e2
      clear hcell hx hx2 hm hkn
      rw [e5]
      clear e5
      go_wp2
      go_round
      case rel => exact ⟨k, by have := HKn.out; omega, rfl, by rw [HD.out]⟩
      case measure => simp [intOf]

end Go.Proofs.YtkhghkklekjdaaaDoor.journal
