/- The document's own order of rows; the law's own look at what is fit. -/
import Derived.Test.YtgjfijognplfpaaRows
import Derived.Test.YtgjfijognplfpaaCodeOrdR
import Derived.Test.YtgjfijognplfpaaCodeOrd3
import Derived.Test.YtgjfijognplfpaaCodeLawW
namespace Go.Proofs.Ytgjfijognplfpaa.code
open Go.RowKit
open Go.Proofs.Ytgjfijognplfpaa.kit Go.Proofs.Ytgjfijognplfpaa.cm
open Go.Proofs.Ytgjfijognplfpaa.lawsW (keepF)
set_option linter.unusedVariables false

theorem of_drew {w u : World} (h : Below w.drew.heap.size w.drew u) : Below w.heap.size w u := ⟨h.os, h.tape, h.output, h.size, h.block⟩

set_option maxHeartbeats 4000000 in
set_option maxRecDepth 100000 in
theorem lfit_any (sl : Value) (fs : List Fld) (w : World) (hs : SlF w sl fs) :
    Calls Try.prog 17 #[sl] w fun e w' => e = .returned (.bool (fits fs)) ∧ Below w.heap.size w w' := by
  obtain ⟨hl, a, cap, rfl, hc⟩ := id hs
  have HS := Lib.hid hs
  obtain ⟨L, hL⟩ : ∃ L, fs.length = L := ⟨_, rfl⟩
  have HL := Lib.hid hL
  rw [hL] at hl ⊢
  clear hs hc hL
  go_enter Try.func17, Try.ntmps17
  go_wp2
  go_loopw [3] (fun i wr => ∃ k : Nat, k ≤ L ∧ i = .int .i64 k ∧ (fs.take k).all Fld.fit = true ∧ Below w.heap.size w wr) (fun i _ => L - (intOf i).toNat)
  case atStart => exact ⟨0, by omega, rfl, rfl, Below.refl _ _⟩
  case round =>
    obtain ⟨k, hk, rfl, hfit, hb⟩ := hrel
    have HB := Lib.hid hb; have HFit := Lib.hid hfit
    clear hb hfit
    by_cases hlt : k < L
    · have hlt' : (k : Int) < L := by omega
      have hi : k < fs.length := by rw [HL.out]; exact hlt
      have hs2 : SlF wr (.slice a fs.length cap) fs := HS.out.below HB.out
      obtain ⟨_, a', cap', he, hcell⟩ := hs2
      cases he
      obtain ⟨b, off, rfl, hbl, hcell⟩ := hcell (by omega)
      obtain ⟨h1, h2, h3, h4⟩ := hcell k hi
      obtain ⟨f, hf⟩ : ∃ f, fs[k] = f := ⟨_, rfl⟩
      rw [hf] at h1 h2 h3 h4
      have HF := Lib.hid hf
      clear hcell hf
      go_wp2_with fail
      refine (rfit_any f wr).mono ?_
      rintro e w2 ⟨rfl, hb2⟩
      have HB2 := Lib.hid (HB.out.trans (hb2.mono HB.out.size))
      clear hb2 h1 h2 h3 h4
      by_cases hft : f.fit = true
      · rw [hft]
        go_wp2
        go_roundw
        case rel => exact ⟨k + 1, by omega, by go_num, by rw [take_next (by rw [HL.out]; exact hlt) HF.out, List.all_append, HFit.out]; simp [hft], HB2.out⟩
        case measure => simp [intOf]; omega
      · have hft' : f.fit = false := by simpa using hft
        rw [hft']
        go_wp2
        go_ret
        refine ⟨?_, HB2.out⟩
        have : fits fs = false := by
          have hm : f ∈ fs := by rw [← HF.out]; exact List.getElem_mem _
          cases hq : fits fs with
          | false => rfl
          | true => exact absurd (List.all_eq_true.1 hq f hm) (by simp [hft'])
        rw [this]; rfl
    · obtain rfl : k = L := by omega
      go_wp2
      go_ret
      refine ⟨?_, HB.out⟩
      have h := HFit.out
      rw [← HL.out, List.take_length] at h
      rw [show fits fs = true from h]; rfl

set_option maxHeartbeats 4000000 in
set_option maxRecDepth 100000 in
theorem rOrder_any (s1 s2 : Value) (fa fb : List Fld) (w : World) (hs1 : SlF w s1 fa) (hs2 : SlF w s2 fb) :
    Calls Try.prog 16 #[s1, s2] w fun e w' => e = .returned (.int .i64 (if fits fa && fits fb then rowsF fa fb else 0)) ∧ Below w.heap.size w w' := by
  obtain ⟨hl1, a1, cap1, rfl, _⟩ := id hs1
  obtain ⟨hl2, a2, cap2, rfl, _⟩ := id hs2
  have HS1 := Lib.hid hs1; have HS2 := Lib.hid hs2
  obtain ⟨L1, hL1⟩ : ∃ L, fa.length = L := ⟨_, rfl⟩
  obtain ⟨L2, hL2⟩ : ∃ L, fb.length = L := ⟨_, rfl⟩
  have HL1 := Lib.hid hL1; have HL2 := Lib.hid hL2
  rw [hL1] at hl1 ⊢
  rw [hL2] at hl2 ⊢
  clear hs1 hs2 hL1 hL2
  by_cases h1 : fits fa = true
  · by_cases h2 : fits fb = true
    · rw [h1, h2]
      go_enter Try.func16, Try.ntmps16
      go_wp2_with fail
      refine (rfits_any _ fa w (by have := HS1.out; rwa [HL1.out] at this)).mono ?_
      rintro e w1 ⟨rfl, hb1⟩
      have HB1 := Lib.hid hb1
      rw [h1]
      clear hb1
      go_wp2_with fail
      refine (rfits_any _ fb w1 (by have := HS2.out.below HB1.out; rwa [HL2.out] at this)).mono ?_
      rintro e w2 ⟨rfl, hb2⟩
      have HB2 := Lib.hid (HB1.out.trans (hb2.mono HB1.out.size))
      rw [h2]
      clear hb2
      have H1 := Lib.hid h1; have H2 := Lib.hid h2
      clear h1 h2
      go_wp2
      go_loopw [5] (fun i wr => ∃ k : Nat, k ≤ L1 ∧ k ≤ L2 ∧ i = .int .i64 k ∧ rowsF fa fb = rowsF (fa.drop k) (fb.drop k) ∧ Below w.heap.size w wr) (fun i _ => L1 - (intOf i).toNat)
      case atStart => exact ⟨0, by omega, by omega, rfl, rfl, HB2.out⟩
      case round =>
        obtain ⟨k, hk1, hk2, rfl, hrow, hb⟩ := hrel
        have HB := Lib.hid hb; have HR := Lib.hid hrow
        clear hb hrow
        by_cases hlt : k < L1
        · have hlt' : (k : Int) < L1 := by omega
          have hk0 : (0 : Int) ≤ k := by omega
          have hi : k < fa.length := by rw [HL1.out]; exact hlt
          by_cases hlt2 : k < L2
          · have hlt2' : (k : Int) < L2 := by omega
            have hi2 : k < fb.length := by rw [HL2.out]; exact hlt2
            have hsa : SlF wr (.slice a1 fa.length cap1) fa := HS1.out.below HB.out
            obtain ⟨_, a', cap', he, hcell⟩ := hsa
            cases he
            obtain ⟨b, off, rfl, hbl, hcell⟩ := hcell (by omega)
            obtain ⟨c1, c2, c3, c4⟩ := hcell k hi
            obtain ⟨f, hf⟩ : ∃ f, fa[k] = f := ⟨_, rfl⟩
            rw [hf] at c1 c2 c3 c4
            have HF := Lib.hid hf
            have hff := Lib.hid (show f.fit = true from List.all_eq_true.1 H1.out f (by rw [← hf]; exact List.getElem_mem _))
            clear hcell hf
            have hsb : SlF wr (.slice a2 fb.length cap2) fb := HS2.out.below HB.out
            obtain ⟨_, a', cap', he, hcell⟩ := hsb
            cases he
            obtain ⟨b2, off2, rfl, hbl2, hcell⟩ := hcell (by omega)
            obtain ⟨d1, d2, d3, d4⟩ := hcell k hi2
            obtain ⟨g, hg⟩ : ∃ g, fb[k] = g := ⟨_, rfl⟩
            rw [hg] at d1 d2 d3 d4
            have HG := Lib.hid hg
            have hgf := Lib.hid (show g.fit = true from List.all_eq_true.1 H2.out g (by rw [← hg]; exact List.getElem_mem _))
            have hst := rowsF_step hi hi2
            rw [HF.out, HG.out] at hst
            have HST := Lib.hid hst
            clear hcell hg hst
            have Hbl := Lib.hid hbl; have Hbl2 := Lib.hid hbl2
            clear hbl hbl2
            go_upto_region 6 with fail
            go_region_held3 (fun u => (Below wr.heap.size wr u ∧ u.cell? ⟨b, off + k * 4, none⟩ = some (.int .i64 f.kind) ∧ u.cell? ⟨b, off + k * 4 + 1, none⟩ = some (.int .i64 f.num) ∧ u.cell? ⟨b, off + k * 4 + 2, none⟩ = some (.string f.text) ∧ u.cell? ⟨b, off + k * 4 + 3, none⟩ = some (.bool f.is)) ∧
                (Below wr.heap.size wr u ∧ u.cell? ⟨b2, off2 + k * 4, none⟩ = some (.int .i64 g.kind) ∧ u.cell? ⟨b2, off2 + k * 4 + 1, none⟩ = some (.int .i64 g.num) ∧ u.cell? ⟨b2, off2 + k * 4 + 2, none⟩ = some (.string g.text) ∧ u.cell? ⟨b2, off2 + k * 4 + 3, none⟩ = some (.bool g.is)))
              (first
                | exact ⟨⟨⟨rfl, rfl, rfl, Nat.le_refl _, fun _ _ => rfl⟩, c1, c2, c3, c4⟩, ⟨⟨rfl, rfl, rfl, Nat.le_refl _, fun _ _ => rfl⟩, d1, d2, d3, d4⟩⟩
                | exact ⟨keepF Hbl.out ⟨⟨rfl, rfl, rfl, Nat.le_refl _, fun _ _ => rfl⟩, c1, c2, c3, c4⟩ (of_drew hb2), keepF Hbl2.out ⟨⟨rfl, rfl, rfl, Nat.le_refl _, fun _ _ => rfl⟩, d1, d2, d3, d4⟩ (of_drew hb2)⟩)
              (first | (go_at_call 36; refine (rfieldO_any f g hff.out hgf.out _).mono ?_; rintro e w2 ⟨rfl, hb2⟩))
            have HBn := Lib.hid (show Below w.heap.size w w2 from HB.out.trans ((show Below wr.heap.size wr w2 from ⟨hb2.os, hb2.tape, hb2.output, hb2.size, hb2.block⟩).mono HB.out.size))
            clear hb2 c1 c2 c3 c4 d1 d2 d3 d4
            by_cases hz : ordF f g = 0
            · have hst := HST.out
              rw [if_pos hz] at hst
              have hd : True → (ordF f g != 0) = false := fun _ => by simp [hz]
              have HST2 := Lib.hid hst
              have HZ := Lib.hid hz
              clear hst hz
              go_wp2
              go_roundw
              case rel => exact ⟨k + 1, by omega, by omega, by go_num, by rw [HR.out]; exact HST2.out, HBn.out⟩
              case measure => simp [intOf]; omega
            · have hst := HST.out
              rw [if_neg hz] at hst
              have hd : True → (ordF f g != 0) = true := fun _ => by simp [hz]
              have HE := Lib.hid (HR.out.trans hst)
              clear hst hz
              go_wp2
              go_ret
              exact ⟨by rw [HE.out]; rfl, HBn.out⟩
          · obtain rfl : k = L2 := by omega
            have hr : rowsF fa fb = 1 := by
              have e2 : fb.drop k = [] := List.drop_eq_nil_of_le (by rw [HL2.out]; exact Nat.le_refl _)
              rw [HR.out, List.drop_eq_getElem_cons hi, e2, rowsF]
            have HRR := Lib.hid hr
            have hne : ¬ (L1 : Int) = k := by omega
            have hne2 : ¬ (L1 : Int) < k := by omega
            clear hr
            go_wp2_with (go_at_call 37; refine (rorder_any _ _).mono ?_; rintro e w1 ⟨rfl, rfl⟩)
            all_goals go_ret
            all_goals exact ⟨by rw [HRR.out]; rfl, HB.out⟩
        · obtain rfl : k = L1 := by omega
          by_cases hlt2 : k < L2
          · have hlt2' : (k : Int) < L2 := by omega
            have hne : ¬ (k : Int) = L2 := by omega
            have hi2 : k < fb.length := by rw [HL2.out]; exact hlt2
            have hr : rowsF fa fb = -1 := by
              have e1 : fa.drop k = [] := List.drop_eq_nil_of_le (by rw [HL1.out]; exact Nat.le_refl _)
              rw [HR.out, List.drop_eq_getElem_cons hi2, e1, rowsF]
            have HRR := Lib.hid hr
            clear hr
            go_wp2_with (go_at_call 37; refine (rorder_any _ _).mono ?_; rintro e w1 ⟨rfl, rfl⟩)
            all_goals go_ret
            all_goals exact ⟨by rw [HRR.out]; rfl, HB.out⟩
          · obtain rfl : k = L2 := by omega
            have hr : rowsF fa fb = 0 := by
              have e1 : fa.drop k = [] := List.drop_eq_nil_of_le (by rw [HL1.out]; exact Nat.le_refl _)
              have e2 : fb.drop k = [] := List.drop_eq_nil_of_le (by rw [HL2.out]; exact Nat.le_refl _)
              rw [HR.out, e1, e2, rowsF]
            have HRR := Lib.hid hr
            clear hr
            go_wp2_with fail
            all_goals go_ret
            all_goals exact ⟨by rw [HRR.out]; rfl, HB.out⟩
    · have h2' : fits fb = false := by simpa using h2
      rw [h1, h2']
      go_enter Try.func16, Try.ntmps16
      go_wp2_with fail
      refine (rfits_any _ fa w (by have := HS1.out; rwa [HL1.out] at this)).mono ?_
      rintro e w1 ⟨rfl, hb1⟩
      have HB1 := Lib.hid hb1
      rw [h1]
      clear hb1
      go_wp2_with fail
      refine (rfits_any _ fb w1 (by have := HS2.out.below HB1.out; rwa [HL2.out] at this)).mono ?_
      rintro e w2 ⟨rfl, hb2⟩
      have HB2 := Lib.hid (HB1.out.trans (hb2.mono HB1.out.size))
      rw [h2']
      clear hb2
      go_wp2
      go_ret
      exact ⟨rfl, HB2.out⟩
  · have h1' : fits fa = false := by simpa using h1
    rw [h1']
    go_enter Try.func16, Try.ntmps16
    go_wp2_with fail
    refine (rfits_any _ fa w (by have := HS1.out; rwa [HL1.out] at this)).mono ?_
    rintro e w1 ⟨rfl, hb1⟩
    have HB1 := Lib.hid hb1
    rw [h1']
    clear hb1
    go_wp2
    go_ret
    exact ⟨rfl, HB1.out⟩

end Go.Proofs.Ytgjfijognplfpaa.code
