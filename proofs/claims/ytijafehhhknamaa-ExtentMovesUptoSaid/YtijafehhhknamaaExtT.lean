/- The document's Give and Claim. -/
import Derived.Test.YtijafehhhknamaaRows
import Derived.Test.YtijafehhhknamaaExtS
import Derived.StillTailTactics
namespace Go.Proofs.Ytijafehhhknamaa.ext
open Go.RowKit Go.Sort
open Go.Proofs.Ytijafehhhknamaa.kit Go.Proofs.Ytijafehhhknamaa.own
set_option linter.unusedVariables false

/-- Marks of those below i counted in. -/
def sumI (n : Nat) (free back : List Wy) (i : Nat) : List Int := (List.range n).map fun j : Nat => ((min (cnt free (j : Int)) 2 : Nat) : Int) + if j < i then ((min (cnt back (j : Int)) 2 : Nat) : Int) else 0
def subI (n : Nat) (free back : List Wy) (i : Nat) : List Int := (List.range n).map fun j : Nat => ((min (cnt free (j : Int)) 2 : Nat) : Int) - if j < i then ((min (cnt back (j : Int)) 2 : Nat) : Int) else 0
theorem sumI_len (n : Nat) (free back : List Wy) (i : Nat) : (sumI n free back i).length = n := by simp [sumI]
theorem sumI_at (n : Nat) (free back : List Wy) (i j : Nat) (hj : j < (sumI n free back i).length) : (sumI n free back i)[j] = ((min (cnt free (j : Int)) 2 : Nat) : Int) + if j < i then ((min (cnt back (j : Int)) 2 : Nat) : Int) else 0 := by simp [sumI]
theorem sumI_zero (n : Nat) (free back : List Wy) : sumI n free back 0 = marks n free := by
  unfold sumI marks
  apply List.map_congr_left
  intro j _
  rw [if_neg (by omega)]
  simp
theorem sumI_set (n : Nat) (free back : List Wy) (i : Nat) (hi : i < (sumI n free back i).length) (hi2 : i < (marks n back).length) : (sumI n free back i).set i ((sumI n free back i)[i] + (marks n back)[i]) = sumI n free back (i + 1) := by
  apply List.ext_getElem
  · rw [List.length_set, sumI_len, sumI_len]
  · intro j h1 h2
    simp only [List.getElem_set, sumI_at, marks_at]
    by_cases h : i = j
    · subst h
      rw [if_pos rfl, if_neg (by omega), if_pos (by omega)]
      omega
    · rw [if_neg h]
      by_cases h3 : j < i
      · rw [if_pos h3, if_pos (by omega)]
      · rw [if_neg h3, if_neg (by omega)]
theorem subI_len (n : Nat) (free back : List Wy) (i : Nat) : (subI n free back i).length = n := by simp [subI]
theorem subI_at (n : Nat) (free back : List Wy) (i j : Nat) (hj : j < (subI n free back i).length) : (subI n free back i)[j] = ((min (cnt free (j : Int)) 2 : Nat) : Int) - if j < i then ((min (cnt back (j : Int)) 2 : Nat) : Int) else 0 := by simp [subI]
theorem subI_zero (n : Nat) (free back : List Wy) : subI n free back 0 = marks n free := by
  unfold subI marks
  apply List.map_congr_left
  intro j _
  rw [if_neg (by omega)]
  simp
theorem subI_set (n : Nat) (free back : List Wy) (i : Nat) (hi : i < (subI n free back i).length) (hi2 : i < (marks n back).length) : (subI n free back i).set i ((subI n free back i)[i] - (marks n back)[i]) = subI n free back (i + 1) := by
  apply List.ext_getElem
  · rw [List.length_set, subI_len, subI_len]
  · intro j h1 h2
    simp only [List.getElem_set, subI_at, marks_at]
    by_cases h : i = j
    · subst h
      rw [if_pos rfl, if_neg (by omega), if_pos (by omega)]
      omega
    · rw [if_neg h]
      by_cases h3 : j < i
      · rw [if_pos h3, if_pos (by omega)]
      · rw [if_neg h3, if_neg (by omega)]

set_option maxHeartbeats 8000000 in
set_option maxRecDepth 100000 in
theorem rGive_any (n : Nat) (va vb : Value) (free back : List Wy) (w : World) (ha : Sl wc 2 w va free) (hb : Sl wc 2 w vb back) (hn : n ≤ 65536) (hf : ∀ x ∈ free, lieE n x = true) (hg : Gap free) (hok : ∀ x ∈ back, Wy.Ok x) :
    Calls Try.prog 16 #[.int .i64 n, va, vb] w (RowN w (GiveR n free back)) := by
  have ht : rowE n = true := by simp [rowE]; omega
  have hpf := lie_pos hf
  have hfl := row_len ht hpf hg hf
  have hM1 := marked_any n va free w ha hn (lie_ok ht hf)
  have HM1 := Lib.hid hM1; have HA := Lib.hid ha; have HBk := Lib.hid hb; have HF := Lib.hid hf; have HOk := Lib.hid hok; have HGp := Lib.hid hg; have HPf := Lib.hid hpf
  have HLf : Hid (free.length * 16 ≤ 140737488355328) := Lib.hid (by omega)
  have HHn := Lib.hid hn
  obtain ⟨a1, c1, rfl⟩ := ha.slice
  obtain ⟨a2, c2, rfl⟩ := hb.slice
  have hn0 : (0 : Int) ≤ n := by omega
  clear ha hb hf hok ht hpf hfl hM1 hg
  have mixed : Try.prog.follows .mixedOrders = true := by kernel_rfl
  go_enter Try.func16, Try.ntmps16
  go_wp2_with fail
  refine HM1.out.mono ?_
  rintro e w1 h1
  rcases h1 with ⟨_, g1, rfl, hg1, hat1, hb1⟩ | ⟨h, _⟩
  rotate_left
  · exact absurd HF.out h
  have HG1 := Lib.hid hg1; have HA1 := Lib.hid hat1; have HB1 := Lib.hid hb1
  have HM2 := Lib.hid (marked_any n _ back w1 (HBk.out.keep hb1) HHn.out HOk.out)
  clear hg1 hat1 hb1
  go_wp2_with fail
  refine HM2.out.mono ?_
  rintro e w2 h2
  rcases h2 with ⟨hlie, g2, rfl, hg2, hat2, hb2⟩ | ⟨hlie, rfl, hb2⟩
  rotate_left
  · have HB2 := Lib.hid (HB1.out.trans (hb2.mono HB1.out.size)); have HLi := Lib.hid hlie
    have HA3 := Lib.hid (HA.out.keep HB2.out)
    clear hb2 hlie
    go_wp2_with (go_at_call 31; refine (rcopied_any _ free _ HA3.out HLf.out).mono ?_; rintro e w4 ⟨v4, rfl, ho4, hb4⟩; have HO4 := Lib.hid (ho4.mono HB2.out.size); have HB4 := Lib.hid (HB2.out.trans (hb4.mono HB2.out.size)); clear ho4 hb4)
    go_ret2
    exact ⟨_, free, 20, rfl, HO4.out, HB4.out, .inl ⟨HLi.out, rfl, rfl⟩⟩
  have HB2 := Lib.hid (HB1.out.trans (hb2.mono HB1.out.size)); have HLi := Lib.hid hlie
  have hne : g1 ≠ g2 := by have := HA1.out.lt; omega
  have HNe := Lib.hid hne
  have HA12 := Lib.hid (HA1.out.block (hb2.block g1 HA1.out.lt)); have HA2 := Lib.hid hat2
  rw [← sumI_zero n free back] at HA12
  clear hg2 hat2 hb2 hlie hne
  go_wp2_with fail
  go_loopw [12] (fun i wr => ∃ k : Nat, k ≤ n ∧ i = .int .i64 k ∧ OwnAt ic 1 3 wr g1 n (sumI n free back k) ∧ OwnAt ic 1 3 wr g2 n (marks n back) ∧ (∀ j : Nat, j < k → ¬ 1 < ((min (cnt free (j : Int)) 2 : Nat) : Int) + ((min (cnt back (j : Int)) 2 : Nat) : Int)) ∧ Below w.heap.size w wr) (fun i _ => n - (intOf i).toNat)
  case atStart => exact ⟨0, by omega, rfl, HA12.out, HA2.out, fun j hj => by omega, HB2.out⟩
  case round =>
    obtain ⟨k, hk, rfl, ho1, ho2, hs, hb⟩ := hrel
    have HB := Lib.hid hb; have HO1 := Lib.hid ho1; have HO2 := Lib.hid ho2; have HSm := Lib.hid hs
    clear hb ho1 ho2 hs
    by_cases hlt : k < n
    · have hlt' : (k : Int) < n := by omega
      have hk0 : (0 : Int) ≤ k := by omega
      have hi1 : k < (sumI n free back k).length := by rw [sumI_len]; exact hlt
      have hi2 : k < (marks n back).length := by rw [marks_len]; exact hlt
      have d1 := icells_at HO1.out k hi1
      have d2 := icells_at HO2.out k hi2
      have hset := sumI_set n free back k hi1 hi2
      have hv1 := sumI_at n free back k k hi1
      have hv2 := marks_at n back k hi2
      rw [if_neg (by omega)] at hv1
      obtain ⟨c, hc⟩ : ∃ c, (sumI n free back k)[k] = c := ⟨_, rfl⟩
      obtain ⟨d, hd⟩ : ∃ d, (marks n back)[k] = d := ⟨_, rfl⟩
      rw [hc] at d1 hset hv1
      rw [hd] at d2 hset hv2
      have hw : IntKind.i64.wrap (c + d) = c + d := by rw [IntKind.wrap_i64]; omega
      have hcd : c + d = ((min (cnt free (k : Int)) 2 : Nat) : Int) + ((min (cnt back (k : Int)) 2 : Nat) : Int) := by rw [hv1, hv2]; omega
      have HCd := Lib.hid hcd
      clear hc hd hv1 hv2 hcd
      go_upto_region 8 with fail
      go_still_tail 11, (by kernel_rfl)
      change wpList _ _ _ _ _ wr.drew
      have HB3 := Lib.hid (HB.out.drewN' 1)
      have HO13 := Lib.hid (show OwnAt ic 1 3 wr.drew g1 n (sumI n free back k) from HO1.out.block rfl)
      have HO23 := Lib.hid (show OwnAt ic 1 3 wr.drew g2 n (marks n back) from HO2.out.block rfl)
      have HB4 := Lib.hid ((show Below w.heap.size w wr.drew from HB3.out).setCell (p := ⟨g1, k, none⟩) HG1.out (.int .i64 (c + d)))
      have HO14 := Lib.hid (HO13.out.set1 k hi1 (c + d))
      rw [hset] at HO14
      have HO24 := Lib.hid (HO23.out.block (heap_setCell_other wr.drew ⟨g1, k, none⟩ g2 (.int .i64 (c + d)) (by show g2 ≠ g1; exact fun e => HNe.out e.symm)))
      have d1 := icells_at HO13.out k hi1
      have d3 := HO13.out.thaw k
      generalize wr.drew = W at HB4 HO14 HO24 d1 d3 ⊢
      clear d2 hset HO13 HO23 HB3
      have hi3 : k < (sumI n free back (k + 1)).length := by rw [sumI_len]; exact hlt
      go_upto_region 9 with fail
      have d4 := icells_at HO14.out k hi3
      have hv3 := sumI_at n free back (k + 1) k hi3
      rw [if_pos (by omega), ← HCd.out] at hv3
      rw [hv3] at d4
      clear d1 d3 hv3
      by_cases hgt : 1 < c + d
      · have hR : Hid (GiveR n free back free 25) := Lib.hid (.inr (.inl ⟨HLi.out, ⟨k, by rw [cnt_append]; have := HCd.out; omega⟩, rfl, rfl⟩))
        have HA3 := Lib.hid (HA.out.keep HB4.out)
        generalize (W.setCell ⟨g1, k, none⟩ (.int .i64 (c + d))) = W2 at HA3 HB4 d4 ⊢
        clear hi1 hi2 hi3
        go_wp2_with (go_at_call 31; refine (rcopied_any _ free _ HA3.out HLf.out).mono ?_; rintro e w4 ⟨v4, rfl, ho4, hb4⟩; have HO4 := Lib.hid (ho4.mono HB4.out.size); have HB5 := Lib.hid (HB4.out.trans (hb4.mono HB4.out.size)); clear ho4 hb4)
        go_ret2
        exact ⟨_, free, 25, rfl, HO4.out, HB5.out, hR.out⟩
      · have HS2 : Hid (∀ j : Nat, j < k + 1 → ¬ 1 < ((min (cnt free (j : Int)) 2 : Nat) : Int) + ((min (cnt back (j : Int)) 2 : Nat) : Int)) := Lib.hid (by
          intro j hj
          by_cases h : j < k
          · exact HSm.out j h
          · obtain rfl : j = k := by omega
            have := HCd.out
            omega)
        generalize (W.setCell ⟨g1, k, none⟩ (.int .i64 (c + d))) = W2 at HO14 HO24 HB4 d4 ⊢
        clear hi1 hi2 hi3
        go_wp2
        go_roundw
        case rel => exact ⟨k + 1, by omega, by go_num, HO14.out, HO24.out, HS2.out, HB4.out⟩
        case measure => simp [intOf]; omega
    · obtain rfl : k = n := by omega
      have HSl := Lib.hid ((HO1.out.own ic_len HG1.out).read ic_len)
      have hlen := sumI_len k free back k
      have hj := join_joined (onesN (sumI k free back k) (sumI k free back k).length) (onesN_pos _ _) (onesN_flat _ _)
      have HR : Hid (GiveR k free back (joinE (onesN (sumI k free back k) (sumI k free back k).length)) 0) := Lib.hid (.inr (.inr (by
        have hcv : ∀ z : Int, cov (onesN (sumI k free back k) (sumI k free back k).length) z ↔ ∃ j : Nat, z = j ∧ j < k ∧ ((min (cnt free (j : Int)) 2 : Nat) : Int) + ((min (cnt back (j : Int)) 2 : Nat) : Int) ≠ 0 := by
          intro z
          rw [onesN_cov, hlen]
          constructor
          · rintro ⟨j, rfl, hj, hne⟩
            refine ⟨j, rfl, hj, ?_⟩
            have hj' : j < (sumI k free back k).length := by rw [hlen]; exact hj
            have e : (sumI k free back k).getD j 0 = (sumI k free back k)[j] := by simp [List.getD, hj']
            rw [e, sumI_at, if_pos hj] at hne
            exact hne
          · rintro ⟨j, rfl, hj, hne⟩
            refine ⟨j, rfl, hj, ?_⟩
            have hj' : j < (sumI k free back k).length := by rw [hlen]; exact hj
            have e : (sumI k free back k).getD j 0 = (sumI k free back k)[j] := by simp [List.getD, hj']
            rw [e, sumI_at, if_pos hj]
            exact hne
        have hs := HSm.out
        have hcf : ∀ z, cov free z → 0 ≤ z ∧ z < k := cov_lie HF.out
        have hcb : ∀ z, cov back z → 0 ≤ z ∧ z < k := cov_lie HLi.out
        have h1f := flat_cnt free HPf.out HGp.out.flat
        refine ⟨HLi.out, fun z => ?_, rfl, hj.pos, hj.gap, fun z => ?_⟩
        · rw [cnt_append]
          by_cases hz : 0 ≤ z ∧ z < k
          · obtain ⟨j, rfl⟩ : ∃ j : Nat, z = j := ⟨z.toNat, by omega⟩
            have := hs j (by omega)
            omega
          · have e1 : ¬ 0 < cnt free z := fun h => hz (hcf z ((cov_cnt free z).2 h))
            have e2 : ¬ 0 < cnt back z := fun h => hz (hcb z ((cov_cnt back z).2 h))
            omega
        · rw [hj.cov z, hcv z]
          constructor
          · rintro ⟨j, rfl, hj, hne⟩
            rw [cov_cnt, cov_cnt]
            omega
          · intro h
            have hz : 0 ≤ z ∧ z < k := by
              rcases h with h | h
              · exact hcf z h
              · exact hcb z h
            obtain ⟨j, rfl⟩ : ∃ j : Nat, z = j := ⟨z.toNat, by omega⟩
            refine ⟨j, rfl, by omega, ?_⟩
            rw [cov_cnt, cov_cnt] at h
            omega)))
      have HLs : Hid ((sumI k free back k).length ≤ 65536) := Lib.hid (by rw [hlen]; exact HHn.out)
      have HE := Lib.hid hlen
      generalize sumI k free back k = ms at HSl HR HLs HE
      clear hj hlen
      rw [HE.out] at HSl
      go_wp2_with (go_at_call 37; refine (packed_any _ ms _ HSl.out HLs.out).mono ?_; rintro e w4 ⟨v4, rfl, ho4, hb4⟩; have HO4 := Lib.hid (ho4.mono HB.out.size); have HB4 := Lib.hid (HB.out.trans (hb4.mono HB.out.size)); clear ho4 hb4)
      go_ret2
      exact ⟨_, _, 0, rfl, HO4.out, HB4.out, HR.out⟩

set_option maxHeartbeats 8000000 in
set_option maxRecDepth 100000 in
theorem rClaim_any (n : Nat) (va vb : Value) (free back : List Wy) (w : World) (ha : Sl wc 2 w va free) (hb : Sl wc 2 w vb back) (hn : n ≤ 65536) (hf : ∀ x ∈ free, lieE n x = true) (hg : Gap free) (hok : ∀ x ∈ back, Wy.Ok x) :
    Calls Try.prog 18 #[.int .i64 n, va, vb] w (RowN w (ClaimR n free back)) := by
  have ht : rowE n = true := by simp [rowE]; omega
  have hpf := lie_pos hf
  have hfl := row_len ht hpf hg hf
  have hM1 := marked_any n va free w ha hn (lie_ok ht hf)
  have HM1 := Lib.hid hM1; have HA := Lib.hid ha; have HBk := Lib.hid hb; have HF := Lib.hid hf; have HOk := Lib.hid hok; have HGp := Lib.hid hg; have HPf := Lib.hid hpf
  have HLf : Hid (free.length * 16 ≤ 140737488355328) := Lib.hid (by omega)
  have HHn := Lib.hid hn
  obtain ⟨a1, c1, rfl⟩ := ha.slice
  obtain ⟨a2, c2, rfl⟩ := hb.slice
  have hn0 : (0 : Int) ≤ n := by omega
  clear ha hb hf hok ht hpf hfl hM1 hg
  have mixed : Try.prog.follows .mixedOrders = true := by kernel_rfl
  go_enter Try.func18, Try.ntmps18
  go_wp2_with fail
  refine HM1.out.mono ?_
  rintro e w1 h1
  rcases h1 with ⟨_, g1, rfl, hg1, hat1, hb1⟩ | ⟨h, _⟩
  rotate_left
  · exact absurd HF.out h
  have HG1 := Lib.hid hg1; have HA1 := Lib.hid hat1; have HB1 := Lib.hid hb1
  have HM2 := Lib.hid (marked_any n _ back w1 (HBk.out.keep hb1) HHn.out HOk.out)
  clear hg1 hat1 hb1
  go_wp2_with fail
  refine HM2.out.mono ?_
  rintro e w2 h2
  rcases h2 with ⟨hlie, g2, rfl, hg2, hat2, hb2⟩ | ⟨hlie, rfl, hb2⟩
  rotate_left
  · have HB2 := Lib.hid (HB1.out.trans (hb2.mono HB1.out.size)); have HLi := Lib.hid hlie
    have HA3 := Lib.hid (HA.out.keep HB2.out)
    clear hb2 hlie
    go_wp2_with (go_at_call 31; refine (rcopied_any _ free _ HA3.out HLf.out).mono ?_; rintro e w4 ⟨v4, rfl, ho4, hb4⟩; have HO4 := Lib.hid (ho4.mono HB2.out.size); have HB4 := Lib.hid (HB2.out.trans (hb4.mono HB2.out.size)); clear ho4 hb4)
    go_ret2
    exact ⟨_, free, 20, rfl, HO4.out, HB4.out, .inl ⟨HLi.out, rfl, rfl⟩⟩
  have HB2 := Lib.hid (HB1.out.trans (hb2.mono HB1.out.size)); have HLi := Lib.hid hlie
  have hne : g1 ≠ g2 := by have := HA1.out.lt; omega
  have HNe := Lib.hid hne
  have HA12 := Lib.hid (HA1.out.block (hb2.block g1 HA1.out.lt)); have HA2 := Lib.hid hat2
  rw [← subI_zero n free back] at HA12
  clear hg2 hat2 hb2 hlie hne
  go_wp2_with fail
  go_loopw [12] (fun i wr => ∃ k : Nat, k ≤ n ∧ i = .int .i64 k ∧ OwnAt ic 1 3 wr g1 n (subI n free back k) ∧ OwnAt ic 1 3 wr g2 n (marks n back) ∧ (∀ j : Nat, j < k → ¬ ((min (cnt free (j : Int)) 2 : Nat) : Int) - ((min (cnt back (j : Int)) 2 : Nat) : Int) < 0) ∧ Below w.heap.size w wr) (fun i _ => n - (intOf i).toNat)
  case atStart => exact ⟨0, by omega, rfl, HA12.out, HA2.out, fun j hj => by omega, HB2.out⟩
  case round =>
    obtain ⟨k, hk, rfl, ho1, ho2, hs, hb⟩ := hrel
    have HB := Lib.hid hb; have HO1 := Lib.hid ho1; have HO2 := Lib.hid ho2; have HSm := Lib.hid hs
    clear hb ho1 ho2 hs
    by_cases hlt : k < n
    · have hlt' : (k : Int) < n := by omega
      have hk0 : (0 : Int) ≤ k := by omega
      have hi1 : k < (subI n free back k).length := by rw [subI_len]; exact hlt
      have hi2 : k < (marks n back).length := by rw [marks_len]; exact hlt
      have d1 := icells_at HO1.out k hi1
      have d2 := icells_at HO2.out k hi2
      have hset := subI_set n free back k hi1 hi2
      have hv1 := subI_at n free back k k hi1
      have hv2 := marks_at n back k hi2
      rw [if_neg (by omega)] at hv1
      obtain ⟨c, hc⟩ : ∃ c, (subI n free back k)[k] = c := ⟨_, rfl⟩
      obtain ⟨d, hd⟩ : ∃ d, (marks n back)[k] = d := ⟨_, rfl⟩
      rw [hc] at d1 hset hv1
      rw [hd] at d2 hset hv2
      have hw : IntKind.i64.wrap (c - d) = c - d := by rw [IntKind.wrap_i64]; omega
      have hcd : c - d = ((min (cnt free (k : Int)) 2 : Nat) : Int) - ((min (cnt back (k : Int)) 2 : Nat) : Int) := by rw [hv1, hv2]; omega
      have HCd := Lib.hid hcd
      clear hc hd hv1 hv2 hcd
      go_upto_region 8 with fail
      go_still_tail 11, (by kernel_rfl)
      change wpList _ _ _ _ _ wr.drew
      have HB3 := Lib.hid (HB.out.drewN' 1)
      have HO13 := Lib.hid (show OwnAt ic 1 3 wr.drew g1 n (subI n free back k) from HO1.out.block rfl)
      have HO23 := Lib.hid (show OwnAt ic 1 3 wr.drew g2 n (marks n back) from HO2.out.block rfl)
      have HB4 := Lib.hid ((show Below w.heap.size w wr.drew from HB3.out).setCell (p := ⟨g1, k, none⟩) HG1.out (.int .i64 (c - d)))
      have HO14 := Lib.hid (HO13.out.set1 k hi1 (c - d))
      rw [hset] at HO14
      have HO24 := Lib.hid (HO23.out.block (heap_setCell_other wr.drew ⟨g1, k, none⟩ g2 (.int .i64 (c - d)) (by show g2 ≠ g1; exact fun e => HNe.out e.symm)))
      have d1 := icells_at HO13.out k hi1
      have d3 := HO13.out.thaw k
      generalize wr.drew = W at HB4 HO14 HO24 d1 d3 ⊢
      clear d2 hset HO13 HO23 HB3
      have hi3 : k < (subI n free back (k + 1)).length := by rw [subI_len]; exact hlt
      go_upto_region 9 with fail
      have d4 := icells_at HO14.out k hi3
      have hv3 := subI_at n free back (k + 1) k hi3
      rw [if_pos (by omega), ← HCd.out] at hv3
      rw [hv3] at d4
      clear d1 d3 hv3
      by_cases hgt : c - d < 0
      · have hR : Hid (ClaimR n free back free 24) := Lib.hid (.inr (.inl ⟨HLi.out, ⟨k, by have := HCd.out; have h1 := flat_cnt free HPf.out HGp.out.flat k; rw [cov_cnt, cov_cnt]; omega⟩, rfl, rfl⟩))
        have HA3 := Lib.hid (HA.out.keep HB4.out)
        generalize (W.setCell ⟨g1, k, none⟩ (.int .i64 (c - d))) = W2 at HA3 HB4 d4 ⊢
        clear hi1 hi2 hi3
        go_wp2_with (go_at_call 31; refine (rcopied_any _ free _ HA3.out HLf.out).mono ?_; rintro e w4 ⟨v4, rfl, ho4, hb4⟩; have HO4 := Lib.hid (ho4.mono HB4.out.size); have HB5 := Lib.hid (HB4.out.trans (hb4.mono HB4.out.size)); clear ho4 hb4)
        go_ret2
        exact ⟨_, free, 24, rfl, HO4.out, HB5.out, hR.out⟩
      · have HS2 : Hid (∀ j : Nat, j < k + 1 → ¬ ((min (cnt free (j : Int)) 2 : Nat) : Int) - ((min (cnt back (j : Int)) 2 : Nat) : Int) < 0) := Lib.hid (by
          intro j hj
          by_cases h : j < k
          · exact HSm.out j h
          · obtain rfl : j = k := by omega
            have := HCd.out
            omega)
        generalize (W.setCell ⟨g1, k, none⟩ (.int .i64 (c - d))) = W2 at HO14 HO24 HB4 d4 ⊢
        clear hi1 hi2 hi3
        go_wp2
        go_roundw
        case rel => exact ⟨k + 1, by omega, by go_num, HO14.out, HO24.out, HS2.out, HB4.out⟩
        case measure => simp [intOf]; omega
    · obtain rfl : k = n := by omega
      have HSl := Lib.hid ((HO1.out.own ic_len HG1.out).read ic_len)
      have hlen := subI_len k free back k
      have hj := join_joined (onesN (subI k free back k) (subI k free back k).length) (onesN_pos _ _) (onesN_flat _ _)
      have HR : Hid (ClaimR k free back (joinE (onesN (subI k free back k) (subI k free back k).length)) 0) := Lib.hid (.inr (.inr (by
        have hcv : ∀ z : Int, cov (onesN (subI k free back k) (subI k free back k).length) z ↔ ∃ j : Nat, z = j ∧ j < k ∧ ((min (cnt free (j : Int)) 2 : Nat) : Int) - ((min (cnt back (j : Int)) 2 : Nat) : Int) ≠ 0 := by
          intro z
          rw [onesN_cov, hlen]
          constructor
          · rintro ⟨j, rfl, hj, hne⟩
            refine ⟨j, rfl, hj, ?_⟩
            have hj' : j < (subI k free back k).length := by rw [hlen]; exact hj
            have e : (subI k free back k).getD j 0 = (subI k free back k)[j] := by simp [List.getD, hj']
            rw [e, subI_at, if_pos hj] at hne
            exact hne
          · rintro ⟨j, rfl, hj, hne⟩
            refine ⟨j, rfl, hj, ?_⟩
            have hj' : j < (subI k free back k).length := by rw [hlen]; exact hj
            have e : (subI k free back k).getD j 0 = (subI k free back k)[j] := by simp [List.getD, hj']
            rw [e, subI_at, if_pos hj]
            exact hne
        have hs := HSm.out
        have hcf : ∀ z, cov free z → 0 ≤ z ∧ z < k := cov_lie HF.out
        have hcb : ∀ z, cov back z → 0 ≤ z ∧ z < k := cov_lie HLi.out
        have h1f := flat_cnt free HPf.out HGp.out.flat
        refine ⟨HLi.out, fun z hz0 => ?_, rfl, hj.pos, hj.gap, fun z => ?_⟩
        · have hz := hcb z hz0
          obtain ⟨j, rfl⟩ : ∃ j : Nat, z = j := ⟨z.toNat, by omega⟩
          have := hs j (by omega)
          have h1 := h1f j
          rw [cov_cnt] at hz0 ⊢
          omega
        · rw [hj.cov z, hcv z]
          constructor
          · rintro ⟨j, rfl, hj, hne⟩
            have h1 := h1f j
            have := hs j hj
            rw [cov_cnt, cov_cnt]
            omega
          · rintro ⟨h, h'⟩
            have hz := hcf z h
            obtain ⟨j, rfl⟩ : ∃ j : Nat, z = j := ⟨z.toNat, by omega⟩
            refine ⟨j, rfl, by omega, ?_⟩
            rw [cov_cnt] at h h'
            omega)))
      have HLs : Hid ((subI k free back k).length ≤ 65536) := Lib.hid (by rw [hlen]; exact HHn.out)
      have HE := Lib.hid hlen
      generalize subI k free back k = ms at HSl HR HLs HE
      clear hj hlen
      rw [HE.out] at HSl
      go_wp2_with (go_at_call 37; refine (packed_any _ ms _ HSl.out HLs.out).mono ?_; rintro e w4 ⟨v4, rfl, ho4, hb4⟩; have HO4 := Lib.hid (ho4.mono HB.out.size); have HB4 := Lib.hid (HB.out.trans (hb4.mono HB.out.size)); clear ho4 hb4)
      go_ret2
      exact ⟨_, _, 0, rfl, HO4.out, HB4.out, HR.out⟩

end Go.Proofs.Ytijafehhhknamaa.ext
