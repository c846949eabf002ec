/- The walks of the sums: the program's by a table of four bits, the document's by one bit. -/
import Derived.Test.YtkhghkklekjdaaaDoorRows
import Derived.Test.YtkhghkklekjdaaaDoorKit
import Derived.Test.YtkhghkklekjdaaaDoorOwn
import Derived.Test.YtkhghkklekjdaaaDoorFrameMath
import Derived.OpenShut
import Derived.Laws.BitsAllLaws
import Derived.WalkSpells
namespace Go.Proofs.YtkhghkklekjdaaaDoor.frame
open Go.RowKit
open Go.Proofs.YtkhghkklekjdaaaDoor.kit Go.Proofs.YtkhghkklekjdaaaDoor.own Go.Proofs.YtkhghkklekjdaaaDoor.fm
set_option linter.unusedVariables false

/-- The table of four bits, as it lies. -/
def Nib (w : World) : Prop := ∀ q, q < 16 → w.cell? ⟨0, q, none⟩ = some (.int .u32 (nib q : Nat))
theorem Nib.keep {w w' : World} (h : Nib w) (hb : Below w.heap.size w w') : Nib w' := fun q hq => (hb.cell (p := ⟨_, q, none⟩) (cell_lt (h q hq))).trans (h q hq)

theorem xor_u32 (h b : Nat) (hh : h < 4294967296) (hb : b < 4294967296) : bits BinOp.xor IntKind.u32 (h : Int) (b : Int) = ((h ^^^ b : Nat) : Int) := u32_xor_nat h b hh hb

theorem and15 (s : Nat) (hs : s < 4294967296) : bits BinOp.and IntKind.u32 (s : Int) 15 = ((s % 16 : Nat) : Int) := by
  have := u32_and_nat s 15 hs (by omega)
  rw [show s &&& 15 = s % 16 from Nat.and_two_pow_sub_one_eq_mod s 4] at this
  exact this

set_option maxRecDepth 100000 in
theorem sumByte_any (r b : Nat) (hr : r < 4294967296) (hb : b < 256) (w : World) (hn : Nib w) :
    Calls Tryd.prog 72 #[.int .u32 r, .int .u8 b] w fun e w' => e = .returned (.int .u32 (sumB r b)) ∧ w = w' := by
  have HS := Lib.hid (sumB_four r b)
  have e1 : True → bits BinOp.xor IntKind.u32 (r : Int) (b : Int) = ((r ^^^ b : Nat) : Int) := fun _ => xor_u32 r b hr (by omega)
  have hs : r ^^^ b < 4294967296 := Nat.xor_lt_two_pow (n := 32) hr (by omega)
  generalize r ^^^ b = s at e1 HS hs
  have e2 : True → bits BinOp.and IntKind.u32 (s : Int) 15 = ((s % 16 : Nat) : Int) := fun _ => and15 s hs
  have e3 : True → (s : Int) / 16 = ((s / 16 : Nat) : Int) := fun _ => by omega
  have hu : s / 16 < 4294967296 := by omega
  have hq : s % 16 < 16 := Nat.mod_lt _ (by decide)
  generalize s / 16 = u at e3 HS hu
  generalize s % 16 = q at e2 HS hq
  have hq' : (q : Int) < 16 := by omega
  have c1 := hn q hq
  have e4 : True → bits BinOp.xor IntKind.u32 (u : Int) (nib q : Int) = ((u ^^^ nib q : Nat) : Int) := fun _ => xor_u32 u _ hu (nib_lt q)
  have ht : u ^^^ nib q < 4294967296 := Nat.xor_lt_two_pow (n := 32) hu (nib_lt q)
  generalize u ^^^ nib q = t at e4 HS ht
  generalize nib q = nq at c1 e4
  have e5 : True → bits BinOp.and IntKind.u32 (t : Int) 15 = ((t % 16 : Nat) : Int) := fun _ => and15 t ht
  have e6 : True → (t : Int) / 16 = ((t / 16 : Nat) : Int) := fun _ => by omega
  have hv : t / 16 < 4294967296 := by omega
  have hp : t % 16 < 16 := Nat.mod_lt _ (by decide)
  generalize t / 16 = v at e6 HS hv
  generalize t % 16 = p at e5 HS hp
  have hp' : (p : Int) < 16 := by omega
  have c2 := hn p hp
  have HE := Lib.hid (xor_u32 v _ hv (nib_lt p))
  clear hn hs hu hv ht
  go_enter Tryd.func72, Tryd.ntmps72
  go_wp2
  go_ret
  exact ⟨ret_int (by rw [HS.out, HE.out]), rfl⟩

theorem compl (r : Nat) (hr : r < 4294967296) : bits BinOp.xor IntKind.u32 IntKind.u32.max (r : Int) = ((4294967295 - r : Nat) : Int) := by
  have := xor_u32 4294967295 r (by omega) hr
  rw [xor_compl r hr] at this
  exact this

/-- What is still to be summed up of the bytes, out of r, comes to T. -/
def Sums (ns : List Nat) (T k r : Nat) : Prop := k ≤ ns.length ∧ r < 4294967296 ∧ regL r (ns.drop k) = T
theorem Sums.step {ns : List Nat} {T k r : Nat} (a : Sums ns T k r) (hk : k < ns.length) (h8 : ∀ n ∈ ns, n < 256) : Sums ns T (k + 1) (sumB r (ns.getD k 0)) := by
  have hm : ns.getD k 0 < 256 := by simp [List.getD, hk]; exact h8 _ (List.getElem_mem hk)
  refine ⟨by omega, sumB_lt _ _ a.2.1 hm, ?_⟩
  have := a.2.2
  rw [drop_getD ns 0 k hk] at this
  exact this
theorem Sums.fin {ns : List Nat} {T k r : Nat} (a : Sums ns T k r) (hk : ¬ k < ns.length) : r = T := by
  have := a.2.2
  rw [List.drop_of_length_le (by omega)] at this
  exact this
theorem byte_at (ns : List Nat) (h8 : ∀ n ∈ ns, n < 256) (k : Nat) : ns.getD k 0 < 256 := by
  by_cases h : k < ns.length
  · simp [List.getD, h]; exact h8 _ (List.getElem_mem h)
  · simp [List.getD, h]

set_option maxHeartbeats 1000000 in
set_option maxRecDepth 100000 in
theorem Sum_any (v : Value) (ns : List Nat) (w : World) (hv : SlI w .u8 v ns) (h8 : ∀ n ∈ ns, n < 256) (hn : Nib w) :
    Calls Tryd.prog 63 #[v] w fun e w' => e = .returned (.int .u32 (crc ns)) ∧ w = w' := by
  obtain ⟨hl, a, cap, rfl, hc⟩ := hv
  have hcr : crc ns = 4294967295 - regL 4294967295 ns := rfl
  have HCr := Lib.hid hcr
  have HS := Lib.hid (show Sums ns (regL 4294967295 ns) 0 4294967295 from ⟨by omega, by omega, by simp⟩)
  have HC := Lib.hid hc; have H8 := Lib.hid h8; have HN := Lib.hid hn
  obtain ⟨L, hL⟩ : ∃ L, ns.length = L := ⟨_, rfl⟩
  have HL := Lib.hid hL
  rw [hL] at hl ⊢
  clear hc h8 hn hcr hL
  generalize regL 4294967295 ns = T at HS HCr
  go_enter Tryd.func63, Tryd.ntmps63
  go_wp2
  go_loop [8, 3] (fun vi vr => ∃ k r : Nat, Sums ns T k r ∧ k ≤ L ∧ vi = .int .i64 k ∧ vr = .int .u32 r) (fun i _ => L - (intOf i).toNat)
  case atStart => exact ⟨0, 4294967295, HS.out, by omega, rfl, rfl⟩
  case round =>
    obtain ⟨k, r, ht, hk, rfl, rfl⟩ := hrel
    have HT := Lib.hid ht
    have hr := ht.2.1
    clear ht
    by_cases hlt : k < L
    · obtain ⟨b, off, ha, hcell⟩ := HC.out (by rw [HL.out]; omega)
      subst ha
      have hc1 := hcell k (by rw [HL.out]; omega)
      have HN1 := Lib.hid (HT.out.step (by rw [HL.out]; exact hlt) H8.out)
      have hm := byte_at ns H8.out k
      generalize ns.getD k 0 = c at hc1 HN1 hm
      have hlt' : (k : Int) < L := by omega
      have hk0 : (0 : Int) ≤ k := by omega
      have HM := Lib.hid hm; have HR := Lib.hid hr
      clear hcell hm hr
      go_wp2_with fail
      refine (sumByte_any r c HR.out HM.out _ HN.out).mono ?_
      rintro e w' ⟨rfl, rfl⟩
      go_wp2
      go_round
      case rel => exact ⟨k + 1, _, HN1.out, by omega, by go_num, rfl⟩
      case measure => simp [intOf]; omega
    · have HF := Lib.hid (HT.out.fin (by rw [HL.out]; exact hlt))
      have HCp := Lib.hid (compl r hr)
      clear hr
      go_wp2
      go_ret
      exact ⟨ret_int (by rw [HCr.out, ← HF.out, ← HCp.out]), rfl⟩

/-- What is still to be done of eight bits, out of r, comes to T. -/
def Bits (T k r : Nat) : Prop := k ≤ 8 ∧ r < 4294967296 ∧ steps (8 - k) r = T
theorem Bits.step {T k r : Nat} (a : Bits T k r) (hk : k < 8) : Bits T (k + 1) (stepB r) := by
  refine ⟨by omega, step_lt _ a.2.1, ?_⟩
  have := a.2.2
  rw [show 8 - k = (8 - (k + 1)) + 1 from by omega, steps] at this
  exact this
theorem Bits.fin {T k r : Nat} (a : Bits T k r) (hk : ¬ k < 8) : r = T := by
  have := a.2.2
  rw [show 8 - k = 0 from by omega, steps] at this
  exact this
theorem step_odd (r : Nat) (h : r % 2 = 1) : stepB r = r / 2 ^^^ 2197175160 := by unfold stepB; rw [if_pos h]
theorem step_ev (r : Nat) (h : ¬ r % 2 = 1) : stepB r = r / 2 := by unfold stepB; rw [if_neg h]
theorem and1 (s : Nat) (hs : s < 4294967296) : bits BinOp.and IntKind.u32 (s : Int) 1 = ((s % 2 : Nat) : Int) := by
  have := u32_and_nat s 1 hs (by omega)
  rw [show s &&& 1 = s % 2 from Nat.and_two_pow_sub_one_eq_mod s 1] at this
  exact this

set_option maxRecDepth 100000 in
theorem rstep_any (r : Nat) (hr : r < 4294967296) (w : World) :
    Calls Tryd.prog 66 #[.int .u32 r] w fun e w' => e = .returned (.int .u32 (steps 8 r)) ∧ w = w' := by
  have HS := Lib.hid (show Bits (steps 8 r) 0 r from ⟨by omega, hr, rfl⟩)
  generalize steps 8 r = T at HS
  clear hr
  go_enter Tryd.func66, Tryd.ntmps66
  go_wp2
  go_loop [3, 0] (fun vi vr => ∃ k r : Nat, Bits T k r ∧ k ≤ 8 ∧ vi = .int .i64 k ∧ vr = .int .u32 r) (fun i _ => 8 - (intOf i).toNat)
  case atStart => exact ⟨0, r, HS.out, by omega, rfl, rfl⟩
  case round =>
    obtain ⟨k, r, ht, hk, rfl, rfl⟩ := hrel
    have HT := Lib.hid ht
    have hr := ht.2.1
    clear ht
    by_cases hlt : k < 8
    · have HN := Lib.hid (HT.out.step hlt)
      have e1 : True → bits BinOp.and IntKind.u32 (r : Int) 1 = ((r % 2 : Nat) : Int) := fun _ => and1 r hr
      have e2 : True → (r : Int) / 2 = ((r / 2 : Nat) : Int) := fun _ => by omega
      have HX := Lib.hid (xor_u32 (r / 2) 2197175160 (by omega) (by omega))
      by_cases ho : r % 2 = 1
      · have HO := Lib.hid (step_odd r ho)
        have hq : True → (((r % 2 : Nat) : Int) == 1) = true := fun _ => by rw [ho]; rfl
        generalize r % 2 = q at e1 hq
        generalize r / 2 = u at e2 HX HO
        clear ho hr
        go_wp2
        go_round
        case rel => exact ⟨k + 1, _, HN.out, by omega, by go_num, by rw [HO.out, ← HX.out]; first | rfl | go_num⟩
        case measure => simp [intOf]; omega
      · have HO := Lib.hid (step_ev r ho)
        have hq : True → (((r % 2 : Nat) : Int) == 1) = false := fun _ => by rw [show r % 2 = 0 from by omega]; rfl
        generalize r % 2 = q at e1 hq
        generalize r / 2 = u at e2 HX HO
        clear ho hr
        go_wp2
        go_round
        case rel => exact ⟨k + 1, _, HN.out, by omega, by go_num, by rw [HO.out]⟩
        case measure => simp [intOf]; omega
    · have HF := Lib.hid (HT.out.fin hlt)
      clear hr
      go_wp2
      go_ret
      exact ⟨ret_int (by rw [HF.out]), rfl⟩

set_option maxHeartbeats 1000000 in
set_option maxRecDepth 100000 in
theorem rSum_any (v : Value) (ns : List Nat) (w : World) (hv : SlI w .u8 v ns) (h8 : ∀ n ∈ ns, n < 256) :
    Calls Tryd.prog 55 #[v] w fun e w' => e = .returned (.int .u32 (crc ns)) ∧ w = w' := by
  obtain ⟨hl, a, cap, rfl, hc⟩ := hv
  have hcr : crc ns = 4294967295 - regL 4294967295 ns := rfl
  have HCr := Lib.hid hcr
  have HS := Lib.hid (show Sums ns (regL 4294967295 ns) 0 4294967295 from ⟨by omega, by omega, by simp⟩)
  have HC := Lib.hid hc; have H8 := Lib.hid h8
  obtain ⟨L, hL⟩ : ∃ L, ns.length = L := ⟨_, rfl⟩
  have HL := Lib.hid hL
  rw [hL] at hl ⊢
  clear hc h8 hcr hL
  generalize regL 4294967295 ns = T at HS HCr
  go_enter Tryd.func55, Tryd.ntmps55
  go_wp2
  go_loop [4, 3] (fun vi vr => ∃ k r : Nat, Sums ns T k r ∧ k ≤ L ∧ vi = .int .i64 k ∧ vr = .int .u32 r) (fun i _ => L - (intOf i).toNat)
  case atStart => exact ⟨0, 4294967295, HS.out, by omega, rfl, rfl⟩
  case round =>
    obtain ⟨k, r, ht, hk, rfl, rfl⟩ := hrel
    have HT := Lib.hid ht
    have hr := ht.2.1
    clear ht
    by_cases hlt : k < L
    · obtain ⟨b, off, ha, hcell⟩ := HC.out (by rw [HL.out]; omega)
      subst ha
      have hc1 := hcell k (by rw [HL.out]; omega)
      have HN1 := Lib.hid (HT.out.step (by rw [HL.out]; exact hlt) H8.out)
      have hm := byte_at ns H8.out k
      generalize ns.getD k 0 = c at hc1 HN1 hm
      have hlt' : (k : Int) < L := by omega
      have hk0 : (0 : Int) ≤ k := by omega
      have e1 : True → bits BinOp.xor IntKind.u32 (r : Int) (c : Int) = ((r ^^^ c : Nat) : Int) := fun _ => xor_u32 r c hr (by omega)
      have HX := Lib.hid (Nat.xor_lt_two_pow (n := 32) hr (show c < 2 ^ 32 by omega))
      have HD := Lib.hid (show sumB r c = steps 8 (r ^^^ c) from rfl)
      generalize r ^^^ c = x at e1 HX HD
      clear hcell hr
      go_wp2_with fail
      refine (rstep_any x HX.out _).mono ?_
      rintro e w' ⟨rfl, rfl⟩
      go_wp2
      go_round
      case rel => exact ⟨k + 1, _, HN1.out, by omega, by go_num, by rw [HD.out]⟩
      case measure => simp [intOf]; omega
    · have HF := Lib.hid (HT.out.fin (by rw [HL.out]; exact hlt))
      have HCp := Lib.hid (compl r hr)
      clear hr
      go_wp2
      go_ret
      exact ⟨ret_int (by rw [HCr.out, ← HF.out, ← HCp.out]), rfl⟩

end Go.Proofs.YtkhghkklekjdaaaDoor.frame
