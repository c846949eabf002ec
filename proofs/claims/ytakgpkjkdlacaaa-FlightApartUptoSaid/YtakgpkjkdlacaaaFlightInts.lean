/- Two rows of numbers are the same. -/
import Derived.Test.YtakgpkjkdlacaaaRows
import Derived.Test.YtakgpkjkdlacaaaFlightThere
import Derived.Test.YtakgpkjkdlacaaaFlightSame
namespace Go.Proofs.Ytakgpkjkdlacaaa.flight
open Go.RowKit
open Go.Proofs.Ytakgpkjkdlacaaa.kit Go.Proofs.Ytakgpkjkdlacaaa.own
set_option linter.unusedVariables false

set_option maxHeartbeats 8000000 in
set_option maxRecDepth 100000 in
theorem ints_any (s1 s2 : Value) (fa fb : List Int) (w : World) (hs1 : Sl ic 1 w s1 fa) (hs2 : Sl ic 1 w s2 fb) :
    Calls Try.prog 15 #[s1, s2] w (EqS w fa fb) := by
  obtain ⟨hl1, a1, cap1, rfl, _, _⟩ := id hs1
  obtain ⟨hl2, a2, cap2, rfl, _, _⟩ := id hs2
  by_cases hlen : fa.length = fb.length
  · have HS1 := Lib.hid hs1; have HS2 := Lib.hid hs2
    have HLen := Lib.hid hlen
    obtain ⟨L, hL⟩ : ∃ L, fb.length = L := ⟨_, rfl⟩
    rw [hL] at hlen
    have HL1 := Lib.hid hlen; have HL2 := Lib.hid hL
    rw [hlen] at hl1 ⊢
    rw [hL] at hl2 ⊢
    clear hs1 hs2 hL hlen
    rename_i hx1 hx2 hx3 hx4
    clear hx1 hx2 hx3 hx4
    go_enter Try.func15, Try.ntmps15
    go_wp2
    go_loopw [5] (fun i wr => ∃ k : Nat, k ≤ L ∧ i = .int .i64 k ∧ fa.take k = fb.take k ∧ Below w.heap.size w wr) (fun i _ => L - (intOf i).toNat)
    case atStart => exact ⟨0, by omega, rfl, rfl, Below.refl _ _⟩
    case round =>
      obtain ⟨k, hk, rfl, heq, hb⟩ := hrel
      have HB := Lib.hid hb; have HE := Lib.hid heq
      clear hb heq
      by_cases hlt : k < L
      · have hlt' : (k : Int) < L := by omega
        have hk0 : (0 : Int) ≤ k := by omega
        have hi1 : k < fa.length := by rw [HL1.out]; exact hlt
        have hi2 : k < fb.length := by rw [HL2.out]; exact hlt
        have hsa := HS1.out.keep HB.out
        obtain ⟨_, a', cap', he, -, hcell⟩ := hsa
        cases he
        obtain ⟨b, off, rfl, hbl, hcell⟩ := hcell (by omega)
        have c1 := icell_at (hcell k hi1)
        clear hcell
        have hsb := HS2.out.keep HB.out
        obtain ⟨_, a', cap', he, -, hcell⟩ := hsb
        cases he
        obtain ⟨b2, off2, rfl, hbl2, hcell⟩ := hcell (by omega)
        have d1 := icell_at (hcell k hi2)
        rw [Nat.mul_one] at c1 d1
        have ht1 : fa.take (k + 1) = fa.take k ++ [fa[k]] := List.take_succ_eq_append_getElem hi1
        have ht2 : fb.take (k + 1) = fb.take k ++ [fb[k]] := List.take_succ_eq_append_getElem hi2
        have hne : fa[k] ≠ fb[k] → fa ≠ fb := fun h e => h (by subst e; rfl)
        obtain ⟨f, hf⟩ : ∃ f, fa[k] = f := ⟨_, rfl⟩
        obtain ⟨g, hg⟩ : ∃ g, fb[k] = g := ⟨_, rfl⟩
        rw [hf] at c1 ht1 hne
        rw [hg] at d1 ht2 hne
        have HT1 := Lib.hid ht1; have HT2 := Lib.hid ht2; have HNe := Lib.hid hne
        clear hcell hf hg ht1 ht2 hne hbl hbl2
        by_cases hfg : f = g
        · subst hfg
          go_upto_region 6 with fail
          go_quiet (fail)
          have HBn := Lib.hid (HB.out.drewN' nq)
          clear c1 d1
          go_wp2
          go_roundw
          case rel => exact ⟨k + 1, by omega, by go_num, by rw [HT1.out, HT2.out, HE.out], HBn.out⟩
          case measure => simp [intOf]; omega
        · have HNq := Lib.hid (HNe.out hfg)
          have hnf : True → (f != g) = true := fun _ => by simp [hfg]
          have hnf2 : True → (f == g) = false := fun _ => by simp [hfg]
          go_upto_region 6 with fail
          go_quiet (fail)
          have HBn := Lib.hid (HB.out.drewN' nq)
          clear c1 d1 hnf hnf2
          go_wp2
          go_ret
          exact ⟨false, rfl, ⟨fun h => (by cases h), fun h => absurd h HNq.out⟩, HBn.out⟩
      · obtain rfl : k = L := by omega
        go_wp2
        go_ret
        refine ⟨true, rfl, ⟨fun _ => ?_, fun _ => rfl⟩, HB.out⟩
        have := HE.out
        rw [← HL1.out, List.take_length, HLen.out, List.take_length] at this
        exact this
  · have hne : ¬ (fa.length : Int) = fb.length := by omega
    have hnq : fa ≠ fb := fun e => hlen (by rw [e])
    have HNq := Lib.hid hnq
    clear hs1 hs2 hlen hnq
    rename_i hx1 hx2 hx3 hx4
    clear hx1 hx2 hx3 hx4
    go_enter Try.func15, Try.ntmps15
    go_wp2
    go_ret
    exact ⟨false, rfl, ⟨fun h => (by cases h), fun h => absurd h HNq.out⟩, Below.refl _ _⟩

end Go.Proofs.Ytakgpkjkdlacaaa.flight
