/- The document's Same. -/
import Derived.Test.YtakgpkjkdlacaaaRows
import Derived.Test.YtakgpkjkdlacaaaFlightSame
namespace Go.Proofs.Ytakgpkjkdlacaaa.flight
open Go.RowKit
open Go.Proofs.Ytakgpkjkdlacaaa.kit Go.Proofs.Ytakgpkjkdlacaaa.own
set_option linter.unusedVariables false

set_option maxHeartbeats 8000000 in
set_option maxRecDepth 100000 in
theorem rSame_any (v1 v2 : Value) (f g : Flt) (w : World) (h1 : FlR w v1 f) (h2 : FlR w v2 g) : Calls Try.prog 10 #[v1, v2] w (SameS w f g) := by
  obtain ⟨vl, vc, rfl, hl, hc⟩ := h1
  obtain ⟨vl2, vc2, rfl, hl2, hc2⟩ := h2
  have hb1 := below_new w (.cells #[.int .i64 f.next, vl, vc] 25)
  have hb2 := below_new (w.alloc (.cells #[.int .i64 f.next, vl, vc] 25)) (.cells #[.int .i64 g.next, vl2, vc2] 25)
  have hx1 := (fbox_new w f.next vl vc).keep hb2
  have hx2 := fbox_new (w.alloc (.cells #[.int .i64 f.next, vl, vc] 25)) g.next vl2 vc2
  rw [World.size_alloc] at hx2
  have hb := hb1.trans (hb2.mono (by simp))
  have HS1 := Lib.hid (hl.keep hb); have HS2 := Lib.hid (hc.keep hb); have HS3 := Lib.hid (hl2.keep hb); have HS4 := Lib.hid (hc2.keep hb)
  have HX1 := Lib.hid hx1; have HX2 := Lib.hid hx2; have HB := Lib.hid hb
  have hg1 := hl.1; have hg2 := hc.1; have hg3 := hl2.1; have hg4 := hc2.1
  obtain ⟨a1, c1, rfl⟩ := hl.slice
  obtain ⟨a2, c2, rfl⟩ := hc.slice
  obtain ⟨a3, c3, rfl⟩ := hl2.slice
  obtain ⟨a4, c4, rfl⟩ := hc2.slice
  obtain ⟨n, l, c⟩ := f
  obtain ⟨m, l', c'⟩ := g
  simp only at HS1 HS2 HS3 HS4 HX1 HX2 HB hg1 hg2 hg3 hg4 ⊢
  clear hl hc hl2 hc2 hb1 hb2 hx1 hx2 hb
  have HE : Hid (((⟨n, l, c⟩ : Flt) = ⟨m, l', c'⟩) ↔ n = m ∧ l = l' ∧ c = c') := by show _ ↔ _; simp
  obtain ⟨L1, hL1⟩ : ∃ L, l.length = L := ⟨_, rfl⟩
  obtain ⟨L2, hL2⟩ : ∃ L, c.length = L := ⟨_, rfl⟩
  obtain ⟨M1, hM1⟩ : ∃ L, l'.length = L := ⟨_, rfl⟩
  obtain ⟨M2, hM2⟩ : ∃ L, c'.length = L := ⟨_, rfl⟩
  simp only [hL1, hL2, hM1, hM2] at HS1 HS2 HS3 HS4 HX1 HX2 HB hg1 hg2 hg3 hg4 ⊢
  have HL1 := Lib.hid hL1; have HL2 := Lib.hid hL2; have HM1 := Lib.hid hM1; have HM2 := Lib.hid hM2
  clear hL1 hL2 hM1 hM2
  by_cases hnm : n = m
  · have hq : True → (n != m) = false := fun _ => by simp [hnm]
    have HN := Lib.hid hnm
    clear hnm
    by_cases h1 : L1 = M1
    · by_cases h2 : L2 = M2
      · subst h1 h2
        go_enter Try.func10, Try.ntmps10
        go_upto_region 1 with fail
        generalize (w.alloc (.cells #[.int .i64 n, _, _] 25)).alloc _ = W at HS1 HS2 HS3 HS4 HX1 HX2 HB ⊢
        generalize w.heap.size + 1 = N2 at HX2 ⊢
        obtain ⟨N, hN⟩ : ∃ N, w.heap.size = N := ⟨_, rfl⟩
        rw [hN] at HX1 ⊢
        clear hN
        obtain ⟨e1, e2, e3⟩ := HX1.out.cells
        obtain ⟨k1, k2, k3⟩ := HX2.out.cells
        go_wp2
        clear e1 e2 e3 k1 k2 k3
        go_loopw [5] (fun i wr => ∃ k : Nat, k ≤ L1 ∧ i = .int .i64 k ∧ l.take k = l'.take k ∧ Below W.heap.size W wr) (fun i _ => L1 - (intOf i).toNat)
        case atStart => exact ⟨0, by omega, rfl, rfl, Below.refl _ _⟩
        case round =>
          obtain ⟨k, hk, rfl, heq, hb⟩ := hrel
          have HW := Lib.hid hb; have HT := Lib.hid heq
          clear hb heq
          obtain ⟨e1, e2, e3⟩ := (HX1.out.keep HW.out).cells
          obtain ⟨k1, k2, k3⟩ := (HX2.out.keep HW.out).cells
          by_cases hlt : k < L1
          · have hlt' : (k : Int) < L1 := by omega
            have hk0 : (0 : Int) ≤ k := by omega
            have hi1 : k < l.length := by rw [HL1.out]; exact hlt
            have hi2 : k < l'.length := by rw [HM1.out]; exact hlt
            have hsa := HS1.out.keep HW.out
            rw [← HL1.out] at hsa
            obtain ⟨_, a', cap', he, -, hcell⟩ := hsa
            cases he
            obtain ⟨b1, off, rfl, hbl, hcell⟩ := hcell (by omega)
            obtain ⟨c10, c11, c12, c13⟩ := fcells_at (hcell k hi1)
            clear hcell
            have hsb := HS3.out.keep HW.out
            rw [← HM1.out] at hsb
            obtain ⟨_, a', cap', he, -, hcell⟩ := hsb
            cases he
            obtain ⟨b2, off2, rfl, hbl2, hcell⟩ := hcell (by omega)
            obtain ⟨d10, d11, d12, d13⟩ := fcells_at (hcell k hi2)
            have ht1 : l.take (k + 1) = l.take k ++ [l[k]] := List.take_succ_eq_append_getElem hi1
            have ht2 : l'.take (k + 1) = l'.take k ++ [l'[k]] := List.take_succ_eq_append_getElem hi2
            have hne : l[k] ≠ l'[k] → l ≠ l' := fun h e => h (by subst e; rfl)
            obtain ⟨f, hf⟩ : ∃ f, l[k] = f := ⟨_, rfl⟩
            obtain ⟨g, hg⟩ : ∃ g, l'[k] = g := ⟨_, rfl⟩
            rw [hf] at c10 c11 c12 c13 ht1 hne
            rw [hg] at d10 d11 d12 d13 ht2 hne
            have HT1 := Lib.hid ht1; have HT2 := Lib.hid ht2; have HNe := Lib.hid hne
            clear hcell hf hg ht1 ht2 hne hbl hbl2
            by_cases hfg : f = g
            · subst hfg
              go_upto_region 6 with fail
              go_quiet (fail)
              have HBn := Lib.hid (HW.out.drewN' nq)
              clear c10 c11 c12 c13 d10 d11 d12 d13 e1 e2 e3 k1 k2 k3
              go_wp2
              go_roundw
              case rel => exact ⟨k + 1, by omega, by go_num, by rw [HT1.out, HT2.out, HT.out], HBn.out⟩
              case measure => simp [intOf]; omega
            · have HNq := Lib.hid (HNe.out hfg)
              have hnf := neq_frm f g hfg
              go_upto_region 6 with fail
              go_quiet (fail)
              have HBn := Lib.hid (HB.out.trans ((HW.out.drewN' nq).mono HB.out.size))
              clear c10 c11 c12 c13 d10 d11 d12 d13 hnf e1 e2 e3 k1 k2 k3
              go_wp2
              go_ret
              exact ⟨false, rfl, ⟨fun h => (by cases h), fun h => absurd (HE.out.1 h).2.1 HNq.out⟩, HBn.out⟩
          · obtain rfl : k = L1 := by omega
            have HW1 := Lib.hid HW.out
            have HEL : Hid (l = l') := by
              have := HT.out
              rw [← HL1.out, List.take_length, HL1.out, ← HM1.out, List.take_length] at this
              exact this
            clear HW HT
            go_wp2
            clear e1 e2 e3 k1 k2 k3
            go_loopw [6] (fun i wr => ∃ k : Nat, k ≤ L2 ∧ i = .int .i64 k ∧ c.take k = c'.take k ∧ Below W.heap.size W wr) (fun i _ => L2 - (intOf i).toNat)
            case atStart => exact ⟨0, by omega, rfl, rfl, HW1.out⟩
            case round =>
              obtain ⟨k, hk, rfl, heq, hb⟩ := hrel
              have HW := Lib.hid hb; have HT := Lib.hid heq
              clear hb heq
              obtain ⟨e1, e2, e3⟩ := (HX1.out.keep HW.out).cells
              obtain ⟨k1, k2, k3⟩ := (HX2.out.keep HW.out).cells
              by_cases hlt : k < L2
              · have hlt' : (k : Int) < L2 := by omega
                have hk0 : (0 : Int) ≤ k := by omega
                have hi1 : k < c.length := by rw [HL2.out]; exact hlt
                have hi2 : k < c'.length := by rw [HM2.out]; exact hlt
                have hsa := HS2.out.keep HW.out
                rw [← HL2.out] at hsa
                obtain ⟨_, a', cap', he, -, hcell⟩ := hsa
                cases he
                obtain ⟨b1, off, rfl, hbl, hcell⟩ := hcell (by omega)
                obtain ⟨c10, c11⟩ := wcells_at (hcell k hi1)
                clear hcell
                have hsb := HS4.out.keep HW.out
                rw [← HM2.out] at hsb
                obtain ⟨_, a', cap', he, -, hcell⟩ := hsb
                cases he
                obtain ⟨b2, off2, rfl, hbl2, hcell⟩ := hcell (by omega)
                obtain ⟨d10, d11⟩ := wcells_at (hcell k hi2)
                have ht1 : c.take (k + 1) = c.take k ++ [c[k]] := List.take_succ_eq_append_getElem hi1
                have ht2 : c'.take (k + 1) = c'.take k ++ [c'[k]] := List.take_succ_eq_append_getElem hi2
                have hne : c[k] ≠ c'[k] → c ≠ c' := fun h e => h (by subst e; rfl)
                obtain ⟨f, hf⟩ : ∃ f, c[k] = f := ⟨_, rfl⟩
                obtain ⟨g, hg⟩ : ∃ g, c'[k] = g := ⟨_, rfl⟩
                rw [hf] at c10 c11 ht1 hne
                rw [hg] at d10 d11 ht2 hne
                have HT1 := Lib.hid ht1; have HT2 := Lib.hid ht2; have HNe := Lib.hid hne
                clear hcell hf hg ht1 ht2 hne hbl hbl2
                by_cases hfg : f = g
                · subst hfg
                  go_upto_region 11 with fail
                  go_quiet (fail)
                  have HBn := Lib.hid (HW.out.drewN' nq)
                  clear c10 c11 d10 d11 e1 e2 e3 k1 k2 k3
                  go_wp2
                  go_roundw
                  case rel => exact ⟨k + 1, by omega, by go_num, by rw [HT1.out, HT2.out, HT.out], HBn.out⟩
                  case measure => simp [intOf]; omega
                · have HNq := Lib.hid (HNe.out hfg)
                  have hnf := neq_way f g hfg
                  go_upto_region 11 with fail
                  go_quiet (fail)
                  have HBn := Lib.hid (HB.out.trans ((HW.out.drewN' nq).mono HB.out.size))
                  clear c10 c11 d10 d11 hnf e1 e2 e3 k1 k2 k3
                  go_wp2
                  go_ret
                  exact ⟨false, rfl, ⟨fun h => (by cases h), fun h => absurd (HE.out.1 h).2.2 HNq.out⟩, HBn.out⟩
              · obtain rfl : k = L2 := by omega
                go_wp2
                go_ret
                refine ⟨true, rfl, ⟨fun _ => HE.out.2 ⟨HN.out, HEL.out, ?_⟩, fun _ => rfl⟩, HB.out.trans (HW.out.mono HB.out.size)⟩
                have := HT.out
                rw [← HL2.out, List.take_length, HL2.out, ← HM2.out, List.take_length] at this
                exact this
      · have hne : ¬ (L2 : Int) = M2 := by omega
        have HNq : Hid (¬ c = c') := fun e => h2 (by rw [← HM2.out, ← HL2.out, e])
        subst h1
        go_enter Try.func10, Try.ntmps10
        go_upto_region 1 with fail
        generalize (w.alloc (.cells #[.int .i64 n, _, _] 25)).alloc _ = W at HS1 HS2 HS3 HS4 HX1 HX2 HB ⊢
        generalize w.heap.size + 1 = N2 at HX2 ⊢
        obtain ⟨N, hN⟩ : ∃ N, w.heap.size = N := ⟨_, rfl⟩
        rw [hN] at HX1 ⊢
        clear hN
        obtain ⟨e1, e2, e3⟩ := HX1.out.cells
        obtain ⟨k1, k2, k3⟩ := HX2.out.cells
        go_wp2
        go_ret
        exact ⟨false, rfl, ⟨fun h => (by cases h), fun h => absurd (HE.out.1 h).2.2 HNq.out⟩, HB.out⟩
    · have hne : ¬ (L1 : Int) = M1 := by omega
      have HNq : Hid (¬ l = l') := fun e => h1 (by rw [← HM1.out, ← HL1.out, e])
      go_enter Try.func10, Try.ntmps10
      go_upto_region 1 with fail
      generalize (w.alloc (.cells #[.int .i64 n, _, _] 25)).alloc _ = W at HS1 HS2 HS3 HS4 HX1 HX2 HB ⊢
      generalize w.heap.size + 1 = N2 at HX2 ⊢
      obtain ⟨N, hN⟩ : ∃ N, w.heap.size = N := ⟨_, rfl⟩
      rw [hN] at HX1 ⊢
      clear hN
      obtain ⟨e1, e2, e3⟩ := HX1.out.cells
      obtain ⟨k1, k2, k3⟩ := HX2.out.cells
      go_wp2
      go_ret
      exact ⟨false, rfl, ⟨fun h => (by cases h), fun h => absurd (HE.out.1 h).2.1 HNq.out⟩, HB.out⟩
  · have hq : True → (n != m) = true := fun _ => by simp [hnm]
    have HN := Lib.hid hnm
    clear hnm
    go_enter Try.func10, Try.ntmps10
    go_upto_region 1 with fail
    generalize (w.alloc (.cells #[.int .i64 n, _, _] 25)).alloc _ = W at HS1 HS2 HS3 HS4 HX1 HX2 HB ⊢
    generalize w.heap.size + 1 = N2 at HX2 ⊢
    obtain ⟨N, hN⟩ : ∃ N, w.heap.size = N := ⟨_, rfl⟩
    rw [hN] at HX1 ⊢
    clear hN
    obtain ⟨e1, e2, e3⟩ := HX1.out.cells
    obtain ⟨k1, k2, k3⟩ := HX2.out.cells
    go_wp2
    go_ret
    exact ⟨false, rfl, ⟨fun h => (by cases h), fun h => absurd (HE.out.1 h).1 HN.out⟩, HB.out⟩

end Go.Proofs.Ytakgpkjkdlacaaa.flight
