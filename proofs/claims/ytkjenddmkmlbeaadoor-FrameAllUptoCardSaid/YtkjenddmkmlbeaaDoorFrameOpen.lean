/- The walks of the reader: what is there, numbers of some bytes, how long the frame at the front is. -/
import Derived.Test.YtkjenddmkmlbeaaDoorRows
import Derived.Test.YtkjenddmkmlbeaaDoorFrameSeal
import Derived.BigQuiet
namespace Go.Proofs.YtkjenddmkmlbeaaDoor.frame
open Go.RowKit
open Go.Proofs.YtkjenddmkmlbeaaDoor.kit Go.Proofs.YtkjenddmkmlbeaaDoor.own Go.Proofs.YtkjenddmkmlbeaaDoor.fm
set_option linter.unusedVariables false

theorem has_yes (a : Option Addr) (L cap : Nat) (n : Int) (w : World) (h : n ≤ L) :
    Calls Tryd.prog 23 #[.slice a L cap, .int .i64 n] w fun e w' => e = .returned (.bool true) ∧ w = w' := by
  go_enter Tryd.func23, Tryd.ntmps23
  go_wp2
  go_ret
  exact ⟨by simp, rfl⟩
theorem has_no (a : Option Addr) (L cap : Nat) (n : Int) (w : World) (h : (L : Int) < n) :
    Calls Tryd.prog 23 #[.slice a L cap, .int .i64 n] w fun e w' => e = .returned (.bool false) ∧ w = w' := by
  have hI : ¬ n ≤ (L : Int) := by omega
  go_enter Tryd.func23, Tryd.ntmps23
  go_wp2
  go_ret
  exact ⟨by simp, rfl⟩

theorem SlI.cells {w : World} {k : IntKind} {b off n cap : Nat} {ns : List Nat} (h : SlI w k (.slice (some ⟨b, off, none⟩) n cap) ns) : ∀ j, j < n → w.cell? ⟨b, off + j, none⟩ = some (.int k (ns.getD j 0 : Nat)) := by
  obtain ⟨hl, a, c, e, hc⟩ := h
  injection e with e1 e2 e3
  subst e1 e2
  intro j hj
  obtain ⟨b', off', e', hcell⟩ := hc (by omega)
  cases e'
  exact hcell j hj
/-- What the loop over a stretch keeps. -/
def LowR (m : List Nat) (k x : Nat) : Prop := k ≤ m.length ∧ x = val (m.take k)
theorem LowR.lt {m : List Nat} {k x : Nat} (h : LowR m k x) (h8 : ∀ b ∈ m, b < 256) : x < 256 ^ k := by
  have := val_lt (m.take k) (fun b hb => h8 b (List.mem_of_mem_take hb))
  rw [List.length_take, Nat.min_eq_left h.1] at this
  rw [h.2]; exact this
theorem LowR.step {m : List Nat} {k x : Nat} (h : LowR m k x) (h8 : ∀ b ∈ m, b < 256) (hk : k < m.length) : LowR m (k + 1) (x ||| m.getD k 0 * 2 ^ (8 * k)) := by
  refine ⟨hk, ?_⟩
  have h1 := h.lt h8
  rw [show (256 : Nat) = 2 ^ 8 from rfl, ← Nat.pow_mul] at h1
  rw [or_add _ _ _ h1, take_snoc' m k hk, val_snoc, List.length_take, Nat.min_eq_left h.1, ← h.2, show (256 : Nat) = 2 ^ 8 from rfl, ← Nat.pow_mul, Nat.mul_comm (2 ^ (8 * k))]
theorem wrap_u32_id (p : Nat) (h : p < 4294967296) : IntKind.u32.wrap (p : Int) = (p : Int) := by simp [IntKind.wrap, IntKind.bits, IntKind.signed]; omega

set_option maxHeartbeats 4000000 in
set_option maxRecDepth 100000 in
theorem low_any (l : List Nat) (v : Value) (p n : Nat) (w : World) (hv : Bts w v l) (h0 : 0 < n) (hn : n ≤ 4) (hp : p + n ≤ l.length) :
    Calls Tryd.prog 25 #[v, .int .i64 p, .int .i64 n] w fun e w' => e = .returned (.int .u32 (val (sub l p n))) ∧ w = w' := by
  obtain ⟨hl, a, cap, rfl, hc⟩ := id hv.1
  obtain ⟨b, off, rfl, hcell⟩ := hc (by omega)
  have hcap := hv.2.2.2 _ _ _ rfl
  have HS := Lib.hid (sub_read (lo := p) (hi := p + n) (a' := some ⟨b, off + p, none⟩) (cap' := cap - p) hv.1 (by omega) hp (fun _ b off e => by cases e; rfl))
  have e : p + n - p = n := by omega
  rw [e] at HS
  have H8 := Lib.hid (sub_lt l p n hv.2.1)
  have HLn := Lib.hid (sub_len l p n hp)
  have HCell : Hid (∀ j, j < n → w.cell? ⟨b, off + p + j, none⟩ = some (.int .u8 ((sub l p n).getD j 0 : Nat))) := by
    exact SlI.cells HS
  clear HS hc hv e hcell
  generalize hL : l.length = L at *
  clear hL
  generalize sub l p n = m at *
  have hcp : (cap : Int) ≠ p := by omega
  have hcn : (p : Int) + n ≤ cap := by omega
  go_enter Tryd.func25, Tryd.ntmps25
  go_wp2
  go_loop [17, 7] (fun vi vx => ∃ k x : Nat, LowR m k x ∧ k ≤ n ∧ vi = .int .i64 k ∧ vx = .int .u32 x) (fun i _ => n - (intOf i).toNat)
  case atStart => exact ⟨0, 0, ⟨by omega, rfl⟩, by omega, rfl, rfl⟩
  case round =>
    obtain ⟨k, x, hk, hkn, rfl, rfl⟩ := hrel
    have HK := Lib.hid hk
    have hx := hk.lt H8.out
    clear hk
    by_cases hlt : k < n
    · have hc1 := HCell.out k hlt
      have HN := Lib.hid (HK.out.step H8.out (by rw [HLn.out]; exact hlt))
      have hm := byte_at m H8.out k
      generalize m.getD k 0 = c at hc1 HN hm
      have hltI : (k : Int) < n := by omega
      have HLt := Lib.hid hlt
      have HX := Lib.hid hx
      have HM := Lib.hid hm
      clear hx
      obtain rfl | rfl | rfl | rfl : k = 0 ∨ k = 1 ∨ k = 2 ∨ k = 3 := by omega
      · rw [Nat.add_zero] at hc1
        have e1 : True → bits BinOp.or IntKind.u32 (x : Int) (c : Int) = ((x ||| c * 2 ^ (8 * 0) : Nat) : Int) := fun _ => by have := HX.out; have := HM.out; rw [u32_or_nat x c (by omega) (by omega)]; simp
        generalize x ||| c * 2 ^ (8 * 0) = x2 at e1 HN
        go_wp2
        go_round
        case rel => exact ⟨_, _, HN.out, HLt.out, by go_num, rfl⟩
        case measure => simp [intOf]; omega
      · have e1 : True → bits BinOp.or IntKind.u32 (x : Int) ((c : Int) * 256) = ((x ||| c * 2 ^ (8 * 1) : Nat) : Int) := fun _ => by have := HX.out; have := HM.out; have := u32_or_nat x (c * 256) (by omega) (by omega); simpa using this
        generalize x ||| c * 2 ^ (8 * 1) = x2 at e1 HN
        go_wp2
        go_round
        case rel => exact ⟨_, _, HN.out, HLt.out, by go_num, rfl⟩
        case measure => simp [intOf]; omega
      · have e1 : True → bits BinOp.or IntKind.u32 (x : Int) ((c : Int) * 65536) = ((x ||| c * 2 ^ (8 * 2) : Nat) : Int) := fun _ => by have := HX.out; have := HM.out; have := u32_or_nat x (c * 65536) (by omega) (by omega); simpa using this
        generalize x ||| c * 2 ^ (8 * 2) = x2 at e1 HN
        go_wp2
        go_round
        case rel => exact ⟨_, _, HN.out, HLt.out, by go_num, rfl⟩
        case measure => simp [intOf]; omega
      · have e1 : True → bits BinOp.or IntKind.u32 (x : Int) ((c : Int) * 16777216) = ((x ||| c * 2 ^ (8 * 3) : Nat) : Int) := fun _ => by have := HX.out; have := HM.out; have := u32_or_nat x (c * 16777216) (by omega) (by omega); simpa using this
        generalize x ||| c * 2 ^ (8 * 3) = x2 at e1 HN
        go_wp2
        go_round
        case rel => exact ⟨_, _, HN.out, HLt.out, by go_num, rfl⟩
        case measure => simp [intOf]; omega
    · obtain rfl : k = n := by omega
      have HE : Hid (x = val m) := by
        have := HK.out.2
        rw [← HLn.out, List.take_length] at this
        exact this
      clear hx
      go_wp2
      go_ret
      exact ⟨ret_int (by rw [HE.out]), rfl⟩

/-- The reader's two variables. -/
def RdAt (w : World) (rb : Nat) (v : Value) (t : Nat) : Prop := w.heap[rb]? = some (.cells #[v, .int .i64 t] 52 (0, 0))
theorem RdAt.c0 {w : World} {rb : Nat} {v : Value} {t : Nat} (h : RdAt w rb v t) : w.cell? ⟨rb, 0, none⟩ = some v := by unfold RdAt at h; simp [World.cell?, h]
theorem RdAt.c1 {w : World} {rb : Nat} {v : Value} {t : Nat} (h : RdAt w rb v t) : w.cell? ⟨rb, 1, none⟩ = some (.int .i64 t) := by unfold RdAt at h; simp [World.cell?, h]
theorem RdAt.f {w : World} {rb : Nat} {v : Value} {t : Nat} (h : RdAt w rb v t) (j : Nat) : w.frozen? ⟨rb, j, none⟩ = false := by unfold RdAt at h; simp [World.frozen?, h]
theorem RdAt.lt {w : World} {rb : Nat} {v : Value} {t : Nat} (h : RdAt w rb v t) : rb < w.heap.size := (Array.getElem?_eq_some_iff.1 h).1

def SizeE : Except Int Nat → Value
  | .error e => .tuple #[.int .i64 0, .int .i64 e]
  | .ok n => .tuple #[.int .i64 n, .int .i64 0]

theorem val3_lt (l : List Nat) (h8 : ∀ b ∈ l, b < 256) (hl : 5 ≤ l.length) : val (sub l 2 3) < 16777216 := by
  have := val_lt (sub l 2 3) (sub_lt l 2 3 h8)
  rw [sub_len l 2 3 (by omega)] at this
  exact this

set_option maxHeartbeats 4000000 in
set_option maxRecDepth 100000 in
theorem size_any (rb : Nat) (l : List Nat) (v : Value) (t : Nat) (w : World) (hv : Bts w v l) (hr : RdAt w rb v t) :
    Calls Tryd.prog 24 #[.pointer (some ⟨rb, 0, none⟩)] w fun e w' => e = .returned (SizeE (sizeP l)) ∧ w = w' := by
  have c0 := hr.c0
  obtain ⟨hl, a, cap, rfl, hc⟩ := id hv.1
  have HV := Lib.hid hv
  have HC := Lib.hid hc
  clear hc hr hv
  go_enter Tryd.func24, Tryd.ntmps24
  by_cases h1 : l.length < 1
  · have HE := Lib.hid (show sizeP l = .error 11 by unfold sizeP; rw [if_neg (by omega), if_pos (by omega)])
    rw [HE.out]
    have HL := Lib.hid (show (l.length : Int) < 1 by omega)
    clear h1
    generalize l.length = L at HL c0 ⊢
    go_wp2_with (go_at_call 23; refine (has_no _ _ _ _ _ (by have := HL.out; omega)).mono ?_; rintro e w' ⟨rfl, rfl⟩)
    go_ret2
    exact ⟨rfl, rfl⟩
  obtain ⟨b, off, rfl, hcell⟩ := HC.out (by omega)
  have hc1 := hcell 0 (by omega)
  rw [Nat.add_zero] at hc1
  by_cases h2 : l.getD 0 0 = 167
  · have hne : True → (((l.getD 0 0 : Nat) : Int) != 167) = false := fun _ => by rw [h2]; rfl
    have hL0 : 0 < l.length := by omega
    generalize hcc : l.getD 0 0 = c at hc1 hne
    clear hcell HC hcc
    by_cases h3 : l.length < 5
    · have HE := Lib.hid (show sizeP l = .error 11 by unfold sizeP; rw [if_neg (by omega), if_pos (by omega)])
      rw [HE.out]
      clear h1 h2 HE HV
      generalize l.length = L at hL0 c0 hl h3 ⊢
      go_wp2_with (go_at_call 23; (first | refine (has_yes _ _ _ _ _ (by omega)).mono ?_ | refine (has_no _ _ _ _ _ (by omega)).mono ?_); rintro e w' ⟨rfl, rfl⟩)
      go_ret2
      exact ⟨rfl, rfl⟩
    have HLow := Lib.hid (low_any l _ 2 3 w HV.out (by omega) (by omega) (by omega))
    have hv3 := val3_lt l HV.out.2.1 (by omega)
    have HZ : Hid (sizeP l = if 1048575 < val (sub l 2 3) then .error 10 else if l.length < val (sub l 2 3) + 9 then .error 11 else .ok (val (sub l 2 3) + 9)) := by
      unfold Hid
      conv => lhs; unfold sizeP
      rw [if_neg (by omega), if_neg (by omega)]
    rw [HZ.out]
    clear HZ HV h1 h2
    generalize val (sub l 2 3) = N at HLow hv3 ⊢
    generalize l.length = L at HLow hL0 c0 hl h3 ⊢
    by_cases h4 : 1048575 < N
    · rw [if_pos h4]
      go_wp2_with (first | (go_at_call 23; (first | refine (has_yes _ _ _ _ _ (by omega)).mono ?_ | refine (has_no _ _ _ _ _ (by omega)).mono ?_); rintro e w' ⟨rfl, rfl⟩) | (go_at_call 25; refine HLow.out.mono ?_; rintro e w' ⟨rfl, rfl⟩))
      go_ret2
      exact ⟨rfl, rfl⟩
    · rw [if_neg h4]
      by_cases h5 : L < N + 9
      · rw [if_pos h5]
        go_wp2_with (first | (go_at_call 23; (first | refine (has_yes _ _ _ _ _ (by omega)).mono ?_ | refine (has_no _ _ _ _ _ (by omega)).mono ?_); rintro e w' ⟨rfl, rfl⟩) | (go_at_call 25; refine HLow.out.mono ?_; rintro e w' ⟨rfl, rfl⟩))
        go_ret2
        exact ⟨rfl, rfl⟩
      · rw [if_neg h5]
        go_wp2_with (first | (go_at_call 23; (first | refine (has_yes _ _ _ _ _ (by omega)).mono ?_ | refine (has_no _ _ _ _ _ (by omega)).mono ?_); rintro e w' ⟨rfl, rfl⟩) | (go_at_call 25; refine HLow.out.mono ?_; rintro e w' ⟨rfl, rfl⟩))
        go_ret2
        exact ⟨rfl, rfl⟩
  · have HE := Lib.hid (show sizeP l = .error 10 by unfold sizeP; rw [if_pos ⟨by omega, h2⟩])
    rw [HE.out]
    have hne : True → (((l.getD 0 0 : Nat) : Int) != 167) = true := fun _ => by rw [bne_iff_ne]; omega
    have hL0 : 0 < l.length := by omega
    generalize l.getD 0 0 = c at hc1 hne
    clear hcell h1 HE HV HC h2
    generalize l.length = L at hL0 c0 hl ⊢
    go_wp2_with (go_at_call 23; (first | refine (has_yes _ _ _ _ _ (by omega)).mono ?_ | refine (has_no _ _ _ _ _ (by omega)).mono ?_); rintro e w' ⟨rfl, rfl⟩)
    go_ret2
    exact ⟨rfl, rfl⟩

end Go.Proofs.YtkjenddmkmlbeaaDoor.frame
