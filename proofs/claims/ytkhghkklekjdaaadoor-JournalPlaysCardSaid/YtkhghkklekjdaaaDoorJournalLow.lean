/- Numbers as bytes, and the journal's own smallest functions. -/
import Derived.Test.YtkhghkklekjdaaaDoorRows
import Derived.Test.YtkhghkklekjdaaaDoorJournalMath
import Derived.Test.YtkhghkklekjdaaaDoorFrameSum
import Derived.Test.YtkhghkklekjdaaaDoorSectorDev
namespace Go.Proofs.YtkhghkklekjdaaaDoor.journal
open Go.RowKit
open Go.Proofs.YtkhghkklekjdaaaDoor.kit Go.Proofs.YtkhghkklekjdaaaDoor.own Go.Proofs.YtkhghkklekjdaaaDoor.jm
open Go.Proofs.YtkhghkklekjdaaaDoor.fm (crc or_add take_snoc' lowN)
open Go.Proofs.YtkhghkklekjdaaaDoor.frame (byte_at Nib Sum_any)
open Go.Proofs.YtkhghkklekjdaaaDoor.sector (infoByte)
set_option linter.unusedVariables false

theorem ofLe_snoc : ∀ (l : List Nat) (c : Nat), ofLe (l ++ [c]) = ofLe l + 256 ^ l.length * c
  | [], c => by simp [ofLe]
  | b :: l, c => by
    simp only [List.cons_append, ofLe, ofLe_snoc l c, List.length_cons, Nat.pow_succ]
    rw [Nat.mul_add, Nat.add_assoc, Nat.mul_comm (256 ^ l.length) 256, Nat.mul_assoc]
def LowR (m : List Nat) (k x : Nat) : Prop := k ≤ m.length ∧ x = ofLe (m.take k)
theorem LowR.lt {m : List Nat} {k x : Nat} (h : LowR m k x) (h8 : ∀ b ∈ m, b < 256) : x < 256 ^ k := by
  have := ofLe_lt (m.take k) (fun b hb => h8 b (List.mem_of_mem_take hb))
  rw [List.length_take, Nat.min_eq_left h.1] at this
  rw [h.2]; exact this
theorem LowR.step {m : List Nat} {k x : Nat} (h : LowR m k x) (h8 : ∀ b ∈ m, b < 256) (hk : k < m.length) : LowR m (k + 1) (x ||| m.getD k 0 * 2 ^ (8 * k)) := by
  refine ⟨hk, ?_⟩
  have h1 := h.lt h8
  rw [show (256 : Nat) = 2 ^ 8 from rfl, ← Nat.pow_mul] at h1
  rw [or_add _ _ _ h1, take_snoc' m k hk, ofLe_snoc, List.length_take, Nat.min_eq_left h.1, ← h.2, show (256 : Nat) = 2 ^ 8 from rfl, ← Nat.pow_mul, Nat.mul_comm (2 ^ (8 * k))]

theorem or64 (x c k K : Nat) (hK : K = 2 ^ (8 * k)) (hx : x < 18446744073709551616) (hc : c < 256) (hk : k < 8) : bits BinOp.or IntKind.u64 (x : Int) ((c : Int) * (K : Int)) = ((x ||| c * 2 ^ (8 * k) : Nat) : Int) := by
  subst hK
  have h2 : c * 2 ^ (8 * k) < 18446744073709551616 := by
    have : 2 ^ (8 * k) ≤ 2 ^ 56 := Nat.pow_le_pow_right (by decide) (by omega)
    calc c * 2 ^ (8 * k) ≤ 255 * 2 ^ 56 := Nat.mul_le_mul (by omega) this
      _ < _ := by decide
  rw [← u64_or_nat x _ hx h2]
  push_cast
  rfl

set_option maxHeartbeats 8000000 in
set_option maxRecDepth 100000 in
theorem low_any (v : Value) (m : List Nat) (w : World) (hv : SlI w .u8 v m) (h8 : ∀ n ∈ m, n < 256) (hlen : m.length ≤ 8) :
    Calls Tryd.prog 61 #[v] w fun e w' => e = .returned (.int .u64 (ofLe m : Nat)) ∧ w = w' := by
  obtain ⟨hl, a, cap, rfl, hc⟩ := id hv
  have HC := Lib.hid hc; have H8 := Lib.hid h8; have HLen := Lib.hid hlen
  obtain ⟨L, hL⟩ : ∃ L, m.length = L := ⟨_, rfl⟩
  have HL := Lib.hid hL
  rw [hL] at hl hlen ⊢
  clear hc h8 hv hL
  go_enter Tryd.func61, Tryd.ntmps61
  go_wp2
  go_loop [8, 3] (fun vi vx => ∃ k x : Nat, LowR m k x ∧ k ≤ L ∧ vi = .int .i64 k ∧ vx = .int .u64 x) (fun i _ => L - (intOf i).toNat)
  case atStart => exact ⟨0, 0, ⟨by omega, rfl⟩, by omega, rfl, rfl⟩
  case round =>
    obtain ⟨k, x, hk, hkn, rfl, rfl⟩ := hrel
    have HK := Lib.hid hk
    have hx := hk.lt H8.out
    clear hk
    by_cases hlt : k < L
    · obtain ⟨b, off, ha, hcell⟩ := HC.out (by rw [HL.out]; omega)
      subst ha
      have hc1 := hcell k (by rw [HL.out]; omega)
      have HN := Lib.hid (HK.out.step H8.out (by rw [HL.out]; exact hlt))
      have hm := byte_at m H8.out k
      generalize m.getD k 0 = c at hc1 HN hm
      have hltI : (k : Int) < L := by omega
      have hk0 : (0 : Int) ≤ k := by omega
      have HLt := Lib.hid hlt
      have hx64 : x < 18446744073709551616 := by
        have : (256 : Nat) ^ k ≤ 256 ^ 8 := Nat.pow_le_pow_right (by decide) (by omega)
        have e : (256 : Nat) ^ 8 = 18446744073709551616 := by decide
        omega
      have HO := Lib.hid (fun K hK => or64 x c k K hK hx64 hm (by omega))
      have HM := Lib.hid hm
      have e0 : True → IntKind.u64.wrap (c : Int) = (c : Int) := fun _ => by simp [IntKind.wrap, IntKind.bits, IntKind.signed]; omega
      clear hcell hx hx64 hlt hm
      obtain rfl | rfl | rfl | rfl | rfl | rfl | rfl | rfl : k = 0 ∨ k = 1 ∨ k = 2 ∨ k = 3 ∨ k = 4 ∨ k = 5 ∨ k = 6 ∨ k = 7 := by omega
      · rw [Nat.add_zero] at hc1
        have e1 : True → bits BinOp.or IntKind.u64 (x : Int) (c : Int) = ((x ||| c * 2 ^ (8 * 0) : Nat) : Int) := fun _ => by have := HO.out 1 rfl; simpa using this
        generalize x ||| c * 2 ^ (8 * 0) = x2 at e1 HN
        clear HO
        go_wp2
        go_round
        case rel => exact ⟨_, _, HN.out, HLt.out, by go_num, rfl⟩
        case measure => simp [intOf]; omega
      · have e1 : True → bits BinOp.or IntKind.u64 (x : Int) ((c : Int) * 256) = ((x ||| c * 2 ^ (8 * 1) : Nat) : Int) := fun _ => HO.out 256 rfl
        have e5 : True → IntKind.u64.wrap ((c : Int) * 256) = (c : Int) * 256 := fun _ => by have := HM.out; simp [IntKind.wrap, IntKind.bits, IntKind.signed]; omega
        generalize x ||| c * 2 ^ (8 * 1) = x2 at e1 HN
        clear HO
        go_wp2
        go_round
        case rel => exact ⟨_, _, HN.out, HLt.out, by go_num, rfl⟩
        case measure => simp [intOf]; omega
      · have e1 : True → bits BinOp.or IntKind.u64 (x : Int) ((c : Int) * 65536) = ((x ||| c * 2 ^ (8 * 2) : Nat) : Int) := fun _ => HO.out 65536 rfl
        have e5 : True → IntKind.u64.wrap ((c : Int) * 65536) = (c : Int) * 65536 := fun _ => by have := HM.out; simp [IntKind.wrap, IntKind.bits, IntKind.signed]; omega
        generalize x ||| c * 2 ^ (8 * 2) = x2 at e1 HN
        clear HO
        go_wp2
        go_round
        case rel => exact ⟨_, _, HN.out, HLt.out, by go_num, rfl⟩
        case measure => simp [intOf]; omega
      · have e1 : True → bits BinOp.or IntKind.u64 (x : Int) ((c : Int) * 16777216) = ((x ||| c * 2 ^ (8 * 3) : Nat) : Int) := fun _ => HO.out 16777216 rfl
        have e5 : True → IntKind.u64.wrap ((c : Int) * 16777216) = (c : Int) * 16777216 := fun _ => by have := HM.out; simp [IntKind.wrap, IntKind.bits, IntKind.signed]; omega
        generalize x ||| c * 2 ^ (8 * 3) = x2 at e1 HN
        clear HO
        go_wp2
        go_round
        case rel => exact ⟨_, _, HN.out, HLt.out, by go_num, rfl⟩
        case measure => simp [intOf]; omega
      · have e1 : True → bits BinOp.or IntKind.u64 (x : Int) ((c : Int) * 4294967296) = ((x ||| c * 2 ^ (8 * 4) : Nat) : Int) := fun _ => HO.out 4294967296 rfl
        have e5 : True → IntKind.u64.wrap ((c : Int) * 4294967296) = (c : Int) * 4294967296 := fun _ => by have := HM.out; simp [IntKind.wrap, IntKind.bits, IntKind.signed]; omega
        generalize x ||| c * 2 ^ (8 * 4) = x2 at e1 HN
        clear HO
        go_wp2
        go_round
        case rel => exact ⟨_, _, HN.out, HLt.out, by go_num, rfl⟩
        case measure => simp [intOf]; omega
      · have e1 : True → bits BinOp.or IntKind.u64 (x : Int) ((c : Int) * 1099511627776) = ((x ||| c * 2 ^ (8 * 5) : Nat) : Int) := fun _ => HO.out 1099511627776 rfl
        have e5 : True → IntKind.u64.wrap ((c : Int) * 1099511627776) = (c : Int) * 1099511627776 := fun _ => by have := HM.out; simp [IntKind.wrap, IntKind.bits, IntKind.signed]; omega
        generalize x ||| c * 2 ^ (8 * 5) = x2 at e1 HN
        clear HO
        go_wp2
        go_round
        case rel => exact ⟨_, _, HN.out, HLt.out, by go_num, rfl⟩
        case measure => simp [intOf]; omega
      · have e1 : True → bits BinOp.or IntKind.u64 (x : Int) ((c : Int) * 281474976710656) = ((x ||| c * 2 ^ (8 * 6) : Nat) : Int) := fun _ => HO.out 281474976710656 rfl
        have e5 : True → IntKind.u64.wrap ((c : Int) * 281474976710656) = (c : Int) * 281474976710656 := fun _ => by have := HM.out; simp [IntKind.wrap, IntKind.bits, IntKind.signed]; omega
        generalize x ||| c * 2 ^ (8 * 6) = x2 at e1 HN
        clear HO
        go_wp2
        go_round
        case rel => exact ⟨_, _, HN.out, HLt.out, by go_num, rfl⟩
        case measure => simp [intOf]; omega
      · have e1 : True → bits BinOp.or IntKind.u64 (x : Int) ((c : Int) * 72057594037927936) = ((x ||| c * 2 ^ (8 * 7) : Nat) : Int) := fun _ => HO.out 72057594037927936 rfl
        have e5 : True → IntKind.u64.wrap ((c : Int) * 72057594037927936) = (c : Int) * 72057594037927936 := fun _ => by have := HM.out; simp [IntKind.wrap, IntKind.bits, IntKind.signed]; omega
        generalize x ||| c * 2 ^ (8 * 7) = x2 at e1 HN
        clear HO
        go_wp2
        go_round
        case rel => exact ⟨_, _, HN.out, HLt.out, by go_num, rfl⟩
        case measure => simp [intOf]; omega
    · obtain rfl : k = L := by omega
      have HE : Hid (x = ofLe m) := by
        have := HK.out.2
        rw [← HL.out, List.take_length] at this
        exact this
      clear hx
      go_wp2
      go_ret
      exact ⟨ret_int (by rw [HE.out]), rfl⟩

/-- A slice of the call's own that is told at the end, with what is kept. -/
def Lays (w : World) (B : Nat) (ns : List Nat) (e : Ending) (w' : World) : Prop := (∃ v', e = .returned v' ∧ OwnI w' B 5 .u8 v' ns) ∧ Kept B 5 w w'

set_option maxHeartbeats 8000000 in
set_option maxRecDepth 100000 in
theorem putLow_any (x n : Nat) (hx : x < 18446744073709551616) (hn : n ≤ 8) (B : Nat) (v : Value) (ns : List Nat) (w : World) (hown : OwnI w B 5 .u8 v ns) (hB : B ≤ w.heap.size) (hlen : ns.length ≤ 1000000000000) :
    Calls Tryd.prog 62 #[v, .int .u64 x, .int .i64 n] w (Lays w B (ns ++ le n x)) := by
  have HH := Lib.hid hown; have HB := Lib.hid hB; have HLen := Lib.hid hlen
  clear hown hB hlen hx
  go_enter Tryd.func62, Tryd.ntmps62
  go_wp2
  go_loopw [0, 1, 8] (fun vb vx vi wr => ∃ (k y : Nat) (ms : List Nat), k ≤ n ∧ vi = .int .i64 k ∧ vx = .int .u64 y ∧ ms ++ le (n - k) y = ns ++ le n x ∧ ms.length = ns.length + k ∧ OwnI wr B 5 .u8 vb ms ∧ Kept B 5 w wr) (fun _ _ i _ => n - (intOf i).toNat)
  case atStart => exact ⟨0, x, ns, by omega, rfl, rfl, by simp, by simp, HH.out, Kept.refl _ _ _⟩
  case round =>
    obtain ⟨k, y, ms, hk, rfl, rfl, hms, hml, ho, hkp⟩ := hrel
    have HO := Lib.hid ho; have HK := Lib.hid hkp; have HMs := Lib.hid hms; have HMl := Lib.hid hml
    clear ho hkp hms hml
    by_cases hlt : k < n
    · have hltI : (k : Int) < n := by omega
      have e1 : True → (y : Int) % 256 = ((y % 256 : Nat) : Int) := fun _ => by omega
      have e2 : True → (y : Int) / 256 = ((y / 256 : Nat) : Int) := fun _ => by omega
      have HN : Hid ((ms ++ [y % 256]) ++ le (n - (k + 1)) (y / 256) = ns ++ le n x) := by
        unfold Hid
        rw [← HMs.out, show n - k = (n - (k + 1)) + 1 from by omega, le, List.append_assoc]; rfl
      generalize y % 256 = c at e1 HN
      generalize y / 256 = y2 at e2 HN
      go_wp2_with (at_builtin; refine app1K rfl (.tmp 10) (.tmp 13) 22 rfl B 5 .u8 1 Tryd.underlying22 infoByte _ ms rfl HO.out c _ rfl _ rfl rfl ?_ ?_ ?_ ?_)
      case refine_1 => have := HMl.out; have := HLen.out; unfold maxLen; omega
      case refine_2 => have := HMl.out; have := HLen.out; omega
      case refine_3 => have := HB.out; have := HK.out.size; omega
      case refine_4 =>
        intro v' w' ho hk
        have HO' := Lib.hid ho; have HK' := Lib.hid hk
        clear ho hk
        go_wp2
        go_roundw
        case rel => exact ⟨k + 1, y2, ms ++ [c], by omega, by go_num, rfl, HN.out, by rw [List.length_append, HMl.out]; simp; omega, HO'.out, HK.out.trans HK'.out⟩
        case measure => simp [intOf]; omega
    · obtain rfl : k = n := by omega
      have HE : Hid (ms = ns ++ le k x) := by
        unfold Hid; have := HMs.out; rw [Nat.sub_self, le, List.append_nil] at this; exact this
      go_wp2
      go_ret
      exact ⟨⟨_, rfl, by rw [← HE.out]; exact HO.out⟩, HK.out⟩

set_option maxRecDepth 100000 in
theorem Need_any (z : Int) (w : World) (h1 : -9223372036854775808 ≤ z) (h2 : z ≤ 9223372036854775807) : Calls Tryd.prog 28 #[.int .i64 z] w fun e w' => e = .returned (.int .i64 (need z.toNat : Nat)) ∧ w = w' := by
  by_cases hz : z ≤ 47
  · have he : need z.toNat = 1 := by unfold need; rw [if_pos (by omega)]
    rw [he]
    clear h1 h2 he
    go_enter Tryd.func28, Tryd.ntmps28
    go_wp2
    go_ret
    exact ⟨rfl, rfl⟩
  · obtain ⟨n, rfl⟩ := Int.eq_ofNat_of_zero_le (show 0 ≤ z by omega)
    have he : need n = 2 + (n - 48) / 55 := by unfold need; rw [if_neg (by omega)]
    rw [Int.toNat_natCast, he]
    obtain ⟨m, rfl⟩ : ∃ m, n = m + 48 := ⟨n - 48, by omega⟩
    have hb : m ≤ 9223372036854775759 := by omega
    have e1 : True → IntKind.i64.wrap (((m + 48 : Nat) : Int) - 47) = ((m + 1 : Nat) : Int) := fun _ => by rw [IntKind.wrap_i64]; omega
    have e2 : True → IntKind.i64.wrap (((m + 1 : Nat) : Int) - 1) = (m : Int) := fun _ => by rw [IntKind.wrap_i64]; omega
    have e3 : True → wrap64 ((m : Int) / 55) = ((m / 55 : Nat) : Int) := fun _ => by have := IntKind.wrap_i64 ((m : Int) / 55); unfold wrap64; omega
    have e4 : True → wrap64 (2 + ((m / 55 : Nat) : Int)) = ((2 + m / 55 : Nat) : Int) := fun _ => by unfold wrap64; omega
    rw [show 2 + (m + 48 - 48) / 55 = 2 + m / 55 by rw [Nat.add_sub_cancel]]
    have hz' : ¬ ((m + 48 : Nat) : Int) ≤ 47 := by omega
    clear h1 h2 he hb hz
    generalize m / 55 = q at e3 e4 ⊢
    generalize 2 + q = r at e4 ⊢
    generalize m + 1 = m1 at e1 e2
    generalize m + 48 = m2 at e1 hz' ⊢
    go_enter Tryd.func28, Tryd.ntmps28
    go_wp2
    go_ret
    exact ⟨rfl, rfl⟩

end Go.Proofs.YtkhghkklekjdaaaDoor.journal
