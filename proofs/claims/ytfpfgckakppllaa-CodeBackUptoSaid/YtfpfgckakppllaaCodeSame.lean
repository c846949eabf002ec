/- Two rows that hold the same fields are the same; the kinds of fit fields; 'Whole'. -/
import Derived.Test.YtfpfgckakppllaaRows
import Derived.Test.YtfpfgckakppllaaCodeRFit
import Derived.Test.YtfpfgckakppllaaCodeSize
import Derived.Test.YtfpfgckakppllaaCodeReadK
import Derived.Test.YtfpfgckakppllaaCodeForth
namespace Go.Proofs.Ytfpfgckakppllaa.code
open Go.RowKit
open Go.Proofs.Ytfpfgckakppllaa.kit Go.Proofs.Ytfpfgckakppllaa.cm
set_option linter.unusedVariables false

set_option maxHeartbeats 4000000 in
set_option maxRecDepth 100000 in
theorem lfit_any (sl : Value) (fs : List Fld) (w : World) (hs : SlF w sl fs) :
    Calls Try.prog 4 #[sl] w fun e w' => e = .returned (.bool (fits fs)) ∧ Below w.heap.size w w' := by
  obtain ⟨hl, a, cap, rfl, hc⟩ := id hs
  have HS := Lib.hid hs
  obtain ⟨L, hL⟩ : ∃ L, fs.length = L := ⟨_, rfl⟩
  have HL := Lib.hid hL
  rw [hL] at hl ⊢
  clear hs hc hL
  go_enter Try.func4, Try.ntmps4
  go_wp2
  go_loopw [3] (fun i wr => ∃ k : Nat, k ≤ L ∧ i = .int .i64 k ∧ (fs.take k).all Fld.fit = true ∧ Below w.heap.size w wr) (fun i _ => L - (intOf i).toNat)
  case atStart => exact ⟨0, by omega, rfl, rfl, Below.refl _ _⟩
  case round =>
    obtain ⟨k, hk, rfl, hfit, hb⟩ := hrel
    have HB := Lib.hid hb; have HFit := Lib.hid hfit
    clear hb hfit
    by_cases hlt : k < L
    · have hlt' : (k : Int) < L := by omega
      have hi : k < fs.length := by rw [HL.out]; exact hlt
      have hs2 : SlF wr (.slice a fs.length cap) fs := HS.out.below HB.out
      obtain ⟨_, a', cap', he, hcell⟩ := hs2
      cases he
      obtain ⟨b, off, rfl, hbl, hcell⟩ := hcell (by omega)
      obtain ⟨h1, h2, h3, h4⟩ := hcell k hi
      obtain ⟨f, hf⟩ : ∃ f, fs[k] = f := ⟨_, rfl⟩
      rw [hf] at h1 h2 h3 h4
      have HF := Lib.hid hf
      clear hcell hf
      go_wp2_with fail
      refine (rfit_any f wr).mono ?_
      rintro e w2 ⟨rfl, hb2⟩
      have HB2 := Lib.hid (HB.out.trans (hb2.mono HB.out.size))
      clear hb2 h1 h2 h3 h4
      by_cases hft : f.fit = true
      · rw [hft]
        go_wp2
        go_roundw
        case rel => exact ⟨k + 1, by omega, by go_num, by rw [take_next (by rw [HL.out]; exact hlt) HF.out, List.all_append, HFit.out]; simp [hft], HB2.out⟩
        case measure => simp [intOf]; omega
      · have hft' : f.fit = false := by simpa using hft
        rw [hft']
        go_wp2
        go_ret
        refine ⟨?_, HB2.out⟩
        have : fits fs = false := by
          have hm : f ∈ fs := by rw [← HF.out]; exact List.getElem_mem _
          cases hq : fits fs with
          | false => rfl
          | true => exact absurd (List.all_eq_true.1 hq f hm) (by simp [hft'])
        rw [this]; rfl
    · obtain rfl : k = L := by omega
      go_wp2
      go_ret
      refine ⟨?_, HB.out⟩
      have h := HFit.out
      rw [← HL.out, List.take_length] at h
      rw [show fits fs = true from h]; rfl

set_option maxHeartbeats 4000000 in
set_option maxRecDepth 100000 in
theorem same_any (s1 s2 : Value) (fs : List Fld) (w : World) (hs1 : SlF w s1 fs) (hs2 : SlF w s2 fs) :
    Calls Try.prog 11 #[s1, s2] w fun e w' => e = .returned (.bool true) ∧ Below w.heap.size w w' := by
  obtain ⟨hl1, a1, cap1, rfl, _⟩ := id hs1
  obtain ⟨_, a2, cap2, rfl, _⟩ := id hs2
  have HS1 := Lib.hid hs1; have HS2 := Lib.hid hs2
  obtain ⟨L, hL⟩ : ∃ L, fs.length = L := ⟨_, rfl⟩
  have HL := Lib.hid hL
  rw [hL] at hl1 ⊢
  clear hs1 hs2 hL
  go_enter Try.func11, Try.ntmps11
  go_wp2
  go_loopw [5] (fun i wr => ∃ k : Nat, k ≤ L ∧ i = .int .i64 k ∧ Below w.heap.size w wr) (fun i _ => L - (intOf i).toNat)
  case atStart => exact ⟨0, by omega, rfl, Below.refl _ _⟩
  case round =>
    obtain ⟨k, hk, rfl, hb⟩ := hrel
    have HB := Lib.hid hb
    clear hb
    by_cases hlt : k < L
    · have hlt' : (k : Int) < L := by omega
      have hk0 : (0 : Int) ≤ k := by omega
      have hi : k < fs.length := by rw [HL.out]; exact hlt
      have hsa : SlF wr (.slice a1 fs.length cap1) fs := HS1.out.below HB.out
      obtain ⟨_, a', cap', he, hcell⟩ := hsa
      cases he
      obtain ⟨b, off, rfl, hbl, hcell⟩ := hcell (by omega)
      obtain ⟨c1, c2, c3, c4⟩ := hcell k hi
      have hsb : SlF wr (.slice a2 fs.length cap2) fs := HS2.out.below HB.out
      clear hcell
      obtain ⟨_, a', cap', he, hcell⟩ := hsb
      cases he
      obtain ⟨b2, off2, rfl, hbl2, hcell⟩ := hcell (by omega)
      obtain ⟨d1, d2, d3, d4⟩ := hcell k hi
      obtain ⟨f, hf⟩ : ∃ f, fs[k] = f := ⟨_, rfl⟩
      rw [hf] at c1 c2 c3 c4 d1 d2 d3 d4
      clear hcell hf
      have Hbl := Lib.hid hbl; have Hbl2 := Lib.hid hbl2
      clear hbl hbl2
      go_upto_region 6 with fail
      go_quiet (fail)
      have HBn := Lib.hid (HB.out.drewN' nq)
      clear c1 c2 c3 c4 d1 d2 d3 d4
      go_wp2
      go_roundw
      case rel => exact ⟨k + 1, by omega, by go_num, HBn.out⟩
      case measure => simp [intOf]; omega
    · obtain rfl : k = L := by omega
      go_wp2
      go_ret
      exact ⟨rfl, HB.out⟩


theorem fit_kind {f : Fld} (h : f.fit = true) : ((f.kind.toNat : Nat) : Int) = f.kind ∧ f.kind.toNat < 256 := by
  rcases fit_cases h with ⟨n, hn, rfl⟩ | ⟨n, rfl⟩ | ⟨n, hn, hx, rfl⟩ | ⟨t, rfl⟩ | ⟨b, rfl⟩ <;> exact ⟨rfl, by simp⟩

/-- A slice of kinds of the call's own, as a row of kinds. -/
theorem OwnI.toK {w : World} {B e : Nat} {v : Value} {fs : List Fld} (hf : ∀ f ∈ fs, f.fit = true) (h : OwnI w B e .i64 v (fs.map fun f => f.kind.toNat)) : SlK w v (fs.map fun f => f.kind) := by
  obtain ⟨hl, a, cap, rfl, hc⟩ := h.read
  rw [List.length_map] at hl hc ⊢
  refine ⟨by rw [List.length_map]; exact hl, a, cap, by rw [List.length_map], fun h0 => ?_⟩
  rw [List.length_map] at h0
  obtain ⟨b, off, rfl, hcell⟩ := hc h0
  refine ⟨b, off, rfl, fun j hj => ?_⟩
  rw [List.length_map] at hj
  rw [hcell j hj]
  have e : (((fs.map fun f => f.kind.toNat).getD j 0 : Nat) : Int) = (fs.map fun f => f.kind).getD j 0 := by
    simp only [List.getD, List.getElem?_map, List.getElem?_eq_getElem hj, Option.map_some, Option.getD_some]
    exact (fit_kind (hf _ (List.getElem_mem hj))).1
  rw [e]

set_option maxHeartbeats 4000000 in
set_option maxRecDepth 100000 in
theorem kinds_any (sl : Value) (fs : List Fld) (w : World) (hs : SlF w sl fs) (hf : ∀ f ∈ fs, f.fit = true) (hlen : fs.length ≤ 1000000000000) :
    Calls Try.prog 9 #[sl] w fun e w' => ∃ v, e = .returned v ∧ SlK w' v (fs.map fun f => f.kind) ∧ Below w.heap.size w w' := by
  obtain ⟨hl, a, cap, rfl, hc⟩ := id hs
  have HS := Lib.hid hs; have HFit := Lib.hid hf
  obtain ⟨L, hL⟩ : ∃ L, fs.length = L := ⟨_, rfl⟩
  have HL := Lib.hid hL
  rw [hL] at hl hlen ⊢
  clear hs hc hL hf
  have infoI : (Try.prog.info? 3).map (fun i => (i.zero, i.size, i.bytes)) = some (some (.int .i64 0), 1, 8) := by kernel_rfl
  go_enter Try.func9, Try.ntmps9
  go_wp2
  go_loopw [3, 4] (fun v' i wr => ∃ k : Nat, k ≤ L ∧ i = .int .i64 k ∧ OwnI wr w.heap.size 3 .i64 v' ((fs.take k).map fun f => f.kind.toNat) ∧ Below w.heap.size w wr) (fun _ i _ => L - (intOf i).toNat)
  case atStart => exact ⟨0, by omega, rfl, OwnI.nil _ _ _ _, Below.refl _ _⟩
  case round =>
    obtain ⟨k, hk, rfl, ho, hb⟩ := hrel
    have HB := Lib.hid hb; have HO := Lib.hid ho
    clear hb ho
    by_cases hlt : k < L
    · have hlt' : (k : Int) < L := by omega
      have hi : k < fs.length := by rw [HL.out]; exact hlt
      have hs2 : SlF wr (.slice a fs.length cap) fs := HS.out.below HB.out
      obtain ⟨_, a', cap', he, hcell⟩ := hs2
      cases he
      obtain ⟨b, off, rfl, hbl, hcell⟩ := hcell (by omega)
      obtain ⟨h1, h2, h3, h4⟩ := hcell k hi
      obtain ⟨f, hf⟩ : ∃ f, fs[k] = f := ⟨_, rfl⟩
      rw [hf] at h1
      have hmem : f ∈ fs := by rw [← hf]; exact List.getElem_mem _
      have hk := (fit_kind (HFit.out f hmem)).1
      rw [← hk] at h1
      have HF := Lib.hid hf
      have hln : ((fs.take k).map fun f => f.kind.toNat).length = k := by simp; omega
      clear hcell hf hmem hk h2 h3 h4
      obtain ⟨c, hcn⟩ : ∃ c, f.kind.toNat = c := ⟨_, rfl⟩
      rw [hcn] at h1
      have HC := Lib.hid hcn
      clear hcn
      have hsz : w.heap.size ≤ wr.heap.size := HB.out.size
      go_wp2_with (at_builtin; refine app1K rfl (.tmp 11) (.tmp 17) 31 rfl w.heap.size 3 .i64 8 Try.underlying31 infoI _ _ rfl HO.out c _ rfl _ rfl rfl ?_ ?_ hsz ?_)
      case refine_1 => rw [hln]; unfold maxLen; omega
      case refine_2 => rw [hln]; omega
      intro v1 w1 ho1 hk1
      have HO1 := Lib.hid ho1; have HB1 := Lib.hid (HB.out.trans hk1.toBelow)
      clear ho1 hk1 h1
      go_wp2
      go_roundw
      case rel => exact ⟨k + 1, by omega, by go_num, by rw [take_next hi HF.out, List.map_append]; simpa [HC.out] using HO1.out, HB1.out⟩
      case measure => simp [intOf]; omega
    · obtain rfl : k = L := by omega
      go_wp2
      go_ret
      refine ⟨_, rfl, ?_, HB.out⟩
      have h := HO.out
      rw [← HL.out, List.take_length] at h
      exact OwnI.toK HFit.out h

/-- What 'Whole' says of bytes that are just those of some fields. -/
def WholeS (w : World) (fs : List Fld) (e : Ending) (w' : World) : Prop :=
  Below w.heap.size w w' ∧ ∃ v, e = .returned (.tuple #[v, .int .i64 0]) ∧ OwnF w' w.heap.size v fs

set_option maxHeartbeats 4000000 in
set_option maxRecDepth 100000 in
theorem Whole_any (bv kv : Value) (bs : List Nat) (ks : List Int) (fs : List Fld) (w : World) (hb : SlB w bv bs (fun _ => True)) (h8 : ∀ c ∈ bs, c < 256) (hk : SlK w kv ks) (hlen : ks.length ≤ 1000000000000) (hr : rA rField [] ks bs = .ok (fs, [])) :
    Calls Try.prog 8 #[bv, kv] w (WholeS w fs) := by
  have HR := Lib.hid (Read_any bv kv bs ks w hb h8 hk hlen)
  rw [hr] at HR
  obtain ⟨hl, a, cap, rfl, hle, _⟩ := hb
  clear h8 hk hlen hr
  go_enter Try.func8, Try.ntmps8
  go_wp2_with fail
  refine HR.out.mono ?_
  rintro e w1 ⟨hb1, v, rfl, ho⟩
  have HB1 := Lib.hid hb1; have HO := Lib.hid ho
  rw [show ((bs.length : Int) - (([] : List Nat).length : Int)) = (bs.length : Int) by simp]
  have hn : ¬ ((bs.length : Int) < (bs.length : Int)) := by omega
  clear hb1 ho HR
  go_wp2
  go_ret2
  exact ⟨HB1.out, v, rfl, HO.out⟩

end Go.Proofs.Ytfpfgckakppllaa.code
