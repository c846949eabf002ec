/- RuleStays: the statement is proved as it is given, for every input. -/
import Derived.Test.YtfmphjplelganaaRows
import Derived.Test.YtfmphjplelganaaRuleLift
namespace Go.Proofs.Ytfmphjplelganaa.crush
open Go.ChangeShapes Go.WideShapes Go.ChangeAt Go.RowKit
open Go.Proofs.Ytfmphjplelganaa.kit Go.Proofs.Ytfmphjplelganaa.own Go.Proofs.Ytfmphjplelganaa.lift
set_option linter.unusedVariables false

theorem i64_of {z : Int} (h : (Lit.int .i64 z).wf = true) : I64 z := by
  unfold I64
  simpa [Lit.wf, IntKind.min, IntKind.max, IntKind.signed, IntKind.bits] using h
/-- Places hang on the weights as they count alone. -/
theorem hostW_cong {hs ws ws' : List Int} (h : ∀ i, i < hs.length → wtAt ws i = wtAt ws' i) (z : Int) : ∀ n, n ≤ hs.length → hostW hs ws z n = hostW hs ws' z n
  | 0, _ => rfl
  | n + 1, hn => by rw [hostW, hostW, hostW_cong h z n (by omega), h n (by omega)]
theorem nodesOf_cong {hs ws ws' : List Int} (h : ∀ i, i < hs.length → wtAt ws i = wtAt ws' i) (z : Int) : ∀ n, n ≤ hs.length → nodesOf hs ws z n = nodesOf hs ws' z n
  | 0, _ => rfl
  | n + 1, hn => by rw [nodesOf, nodesOf, nodesOf_cong h z n (by omega), h n (by omega)]
theorem place_cong {hs ws ws' : List Int} (h : ∀ i, i < hs.length → wtAt ws i = wtAt ws' i) (x : Nat) (size d : Int) : placeE hs ws x size d = placeE hs ws' x size d := by
  have e1 : itemsE hs ws = itemsE hs ws' := by
    unfold itemsE
    exact List.map_congr_left (fun z _ => by rw [hostW_cong h z _ (Nat.le_refl _)])
  have e2 : nodesE hs ws = nodesE hs ws' := by
    unfold nodesE
    exact List.map_congr_left (fun z _ => nodesOf_cong h z _ (Nat.le_refl _))
  unfold placeE tryE
  rw [e1, e2]
theorem place_mem {hs ws : List Int} {x : Nat} {size d : Int} {a : Nat} (h : a ∈ placeE hs ws x size d) : a < hs.length ∧ 0 < wtAt ws a :=
  placeF_mem (tryE hs ws x) (domsE d hs) size (fun a => a < hs.length ∧ 0 < wtAt ws a) (fun r v h => tryE_some h) 64 a h
/-- The weights but for one node's. -/
def lessK (ws : List Int) (k L i : Nat) : List Int := (List.range L).map fun j => if j < i ∧ j ≠ k then ws.getD j 0 else 0
theorem lessK_len (ws : List Int) (k L i : Nat) : (lessK ws k L i).length = L := by simp [lessK]
theorem lessK_zero (ws : List Int) (k L : Nat) : lessK ws k L 0 = List.replicate L 0 := by
  apply List.ext_getElem (by simp [lessK])
  intro j h1 h2
  simp [lessK]
theorem lessK_set (ws : List Int) (k L i : Nat) (hi : i < L) (hw : i < ws.length) (hne : i ≠ k) : (lessK ws k L i).set i ws[i] = lessK ws k L (i + 1) := by
  apply List.ext_getElem (by simp [lessK])
  intro j h1 h2
  rw [List.getElem_set]
  simp only [lessK, List.getElem_map, List.getElem_range]
  by_cases e : i = j
  · subst e
    rw [if_pos rfl, if_pos ⟨by omega, hne⟩, List.getD_eq_getElem?_getD, List.getElem?_eq_getElem hw]
    rfl
  · rw [if_neg e]
    by_cases h3 : j < i
    · by_cases h4 : j = k
      · rw [if_neg (fun h => h.2 h4), if_neg (fun h => h.2 h4)]
      · rw [if_pos ⟨h3, h4⟩, if_pos ⟨by omega, h4⟩]
    · rw [if_neg (fun h => h3 h.1), if_neg (fun h => h3 (by have := h.1; omega))]
theorem lessK_skip (ws : List Int) (k L : Nat) : lessK ws k L k = lessK ws k L (k + 1) := by
  apply List.ext_getElem (by simp [lessK])
  intro j h1 h2
  simp only [lessK, List.getElem_map, List.getElem_range]
  by_cases h4 : j = k
  · rw [if_neg (fun h => h.2 h4), if_neg (fun h => h.2 h4)]
  · by_cases h3 : j < k
    · rw [if_pos ⟨h3, h4⟩, if_pos ⟨by omega, h4⟩]
    · rw [if_neg (fun h => h3 h.1), if_neg (fun h => h3 (by have := h.1; omega))]
theorem lessK_wt (ws : List Int) (k L i : Nat) (hk : k < L) : wtAt (lessK ws k L i) k = 0 := by
  unfold wtAt
  have : (lessK ws k L i).getD k 0 = 0 := by
    rw [List.getD_eq_getElem?_getD, List.getElem?_eq_getElem (by rw [lessK_len]; exact hk)]
    simp [lessK]
  rw [this]; rfl
/-- Where that node had no weight, nothing has changed. -/
theorem lessK_same (ws : List Int) (k L i : Nat) (hi : L ≤ i ∨ ws.length ≤ i) (h0 : ws.length ≤ k ∨ ws.getD k 0 ≤ 0) : ∀ j, j < L → wtAt (lessK ws k L i) j = wtAt ws j := by
  intro j hj
  unfold wtAt
  have e : (lessK ws k L i).getD j 0 = if j < i ∧ j ≠ k then ws.getD j 0 else 0 := by
    rw [List.getD_eq_getElem?_getD, List.getElem?_eq_getElem (by rw [lessK_len]; exact hj)]
    simp [lessK]
  rw [e]
  have hz : ∀ q, ws.length ≤ q → ws.getD q 0 = 0 := fun q hq => by rw [List.getD_eq_getElem?_getD, List.getElem?_eq_none hq]; rfl
  by_cases h1 : j < i ∧ j ≠ k
  · rw [if_pos h1]
  · rw [if_neg h1]
    by_cases h2 : j = k
    · subst h2
      rcases h0 with h | h
      · rw [hz j h]
      · omega
    · have h3 : i ≤ j := by
        rcases Nat.lt_or_ge j i with h4 | h4
        · exact absurd ⟨h4, h2⟩ h1
        · exact h4
      rw [hz j (by omega)]
theorem infoI64 : (Try.prog.info? 2).map (fun i => (i.zero, i.size, i.bytes)) = some (some (.int .i64 0), 1, 8) := by kernel_rfl
theorem made_i64 (w : World) (n : Nat) (hn : n ≤ 65536) : ∃ w1, (Instr.makeSlice 23 (.int .i64 (n : Nat)) (.int .i64 (n : Nat))).run Try.prog w = .ok (.slice (some ⟨w.heap.size, 0, none⟩) n n) w1 ∧
    OwnAt ic 1 2 w1 w.heap.size n (List.replicate n 0) ∧ Below w.heap.size w w1 :=
  made_gen ic_len (by decide) (0 : Int) (.int .i64 0) 8 rfl Try.underlying23 infoI64 (by decide) (by decide) w n hn
theorem idx_of (i : Int) (n : Nat) (hn : 0 < n) (hl : n ≤ 1048576) : ∃ j : Nat, j < n ∧ wrap64 ((IntKind.u64.wrap i).tmod (n : Int)) = (j : Int) := by
  have h0 : 0 ≤ IntKind.u64.wrap i := by
    unfold IntKind.wrap
    simp [IntKind.signed, IntKind.bits]
    omega
  rw [Int.tmod_eq_emod_of_nonneg h0]
  have h1 := Int.emod_nonneg (IntKind.u64.wrap i) (show (n : Int) ≠ 0 by omega)
  have h2 := Int.emod_lt_of_pos (IntKind.u64.wrap i) (show (0 : Int) < n by omega)
  obtain ⟨j, hj⟩ := Int.eq_ofNat_of_zero_le h1
  refine ⟨j, by omega, ?_⟩
  rw [hj, IntWalk.wrap64_in _ ⟨by omega, by omega⟩]

set_option maxHeartbeats 32000000 in
set_option maxRecDepth 100000 in
theorem walkStays (v vw : Value) (hs0 ws : List Int) (x : Nat) (size out : Int) (hx : x < 4294967296) (w : World) (h : Sl ic 1 w v hs0) (hw : Sl ic 1 w vw ws) (hc : CapOk v hs0.length) (hsz : I64 size) :
    Calls Try.prog 7 #[v, vw, .int .u32 x, .int .i64 size, .int .i64 out] w fun e w' => e = .returned (.bool true) ∧ Below w.heap.size w w' := by
  have HFw := Lib.hid (few_any v hs0 12 (by decide) w h hc)
  obtain ⟨a0, c0, rfl⟩ := h.slice
  obtain ⟨aw, cw, rfl⟩ := hw.slice
  have hlh : (hs0.take 12).length ≤ 12 := by rw [List.length_take]; omega
  obtain ⟨hs, hhs⟩ : ∃ hs, hs0.take 12 = hs := ⟨_, rfl⟩
  rw [hhs] at HFw hlh
  have hlw := hw.1
  have HW := Lib.hid hw; have HX := Lib.hid hx; have HSz := Lib.hid hsz
  obtain ⟨Lw, hLw⟩ : ∃ n, ws.length = n := ⟨_, rfl⟩
  have HLw := Lib.hid hLw
  rw [hLw] at HW hlw ⊢
  generalize hs0.length = L0 at HFw ⊢
  clear h hw hc hx hsz hhs hLw
  go_enter Try.func7, Try.ntmps7
  go_wp2_with fail
  refine HFw.out.mono ?_
  rintro e w1 ⟨⟨v1, rfl, hs1⟩, rfl⟩
  obtain ⟨a1, c1, rfl⟩ := hs1.slice
  obtain ⟨L, hL⟩ : ∃ n, hs.length = n := ⟨_, rfl⟩
  have HL := Lib.hid hL
  rw [hL] at hs1 hlh ⊢
  have HS := Lib.hid hs1
  clear hs1 hL HFw
  by_cases hL0 : L = 0
  · have hL0' : (L : Int) = 0 := by omega
    go_wp2_with (go_at_call 17; refine (awake_any _).mono ?_; rintro e w6 ⟨rfl, hb⟩; have HBe := Lib.hid hb; clear hb)
    go_ret
    exact ⟨rfl, HBe.out⟩
  · have hL0' : ¬ (L : Int) = 0 := by omega
    obtain ⟨k, hk, hke⟩ := idx_of out L (by omega) (by omega)
    obtain ⟨w2, hm1, hm2, hm3⟩ := made_i64 w1 L (by omega)
    have HM2 := Lib.hid hm2; have HM3 := Lib.hid hm3
    obtain ⟨sz, hsz⟩ : ∃ s, min size 4 = s := ⟨_, rfl⟩
    have HSz2 : Hid (I64 sz) := Lib.hid (by have := HSz.out; unfold I64 at this ⊢; omega)
    clear hm2 hm3
    go_upto_region 7 with fail
    simp only [hke]
    obtain ⟨g, hg⟩ : ∃ g, w1.heap.size = g := ⟨_, rfl⟩
    rw [hg] at HM2 ⊢
    have HGe := Lib.hid hg
    clear hm1 hke hsz hg
    have hk0 : (0 : Int) ≤ k := by omega
    go_wp2
    go_loopw [14] (fun vi wr => ∃ i : Nat, i ≤ L ∧ i ≤ Lw ∧ vi = .int .i64 i ∧ OwnAt ic 1 2 wr g L (lessK ws k L i) ∧ Below w1.heap.size w1 wr) (fun i _ => L - (intOf i).toNat)
    case atStart => exact ⟨0, by omega, by omega, rfl, by rw [lessK_zero]; exact HM2.out, HM3.out⟩
    case round =>
      obtain ⟨i, hi, hiw, rfl, hat, hb⟩ := hrel
      have HAt := Lib.hid hat; have HB := Lib.hid hb
      by_cases hgo : i < L ∧ i < Lw
      · obtain ⟨hiL, hiW⟩ := hgo
        have hiL' : (i : Int) < L := by omega
        have hiW' : (i : Int) < Lw := by omega
        have hi0 : (0 : Int) ≤ i := by omega
        by_cases hik : i = k
        · have hik' : (i : Int) = k := by omega
          have hes : lessK ws k L (i + 1) = lessK ws k L i := by subst hik; exact (lessK_skip ws i L).symm
          have HN := Lib.hid (show OwnAt ic 1 2 wr g L (lessK ws k L (i + 1)) from by rw [hes]; exact hat)
          clear hat hb
          go_wp2
          go_roundw
          case rel => exact ⟨i + 1, by omega, by omega, by go_num, HN.out, HB.out⟩
          case measure => simp [intOf]; omega
        · have hik' : ¬ (i : Int) = k := by omega
          have hiws : i < ws.length := by rw [HLw.out]; exact hiW
          obtain ⟨b2, off, c2', he, hbl, hcell⟩ := int_at' (HW.out.keep hb) HLw.out hiW
          obtain ⟨rfl, rfl⟩ : aw = some ⟨b2, off, none⟩ ∧ cw = c2' := by cases he; exact ⟨rfl, rfl⟩
          have d1 := hcell i hiws
          have hll : i < (lessK ws k L i).length := by rw [lessK_len]; exact hiL
          have q1 := icells_at hat i hll
          have q0 := hat.thaw1 i
          generalize (lessK ws k L i)[i] = z0 at q1
          have hst := hat.set1 i hll ws[i]
          rw [lessK_set ws k L i hiL hiws hik] at hst
          have HN := Lib.hid hst
          have HB2 := Lib.hid (hb.setCell (p := ⟨g, i, none⟩) (by show w1.heap.size ≤ g; rw [HGe.out]; exact Nat.le_refl _) (.int .i64 ws[i]))
          generalize ws[i] = z at d1 HN HB2
          clear hat hb hst hll he hbl hcell hiws
          go_wp2
          clear d1 q1 q0
          go_roundw
          case rel => exact ⟨i + 1, by omega, by omega, by go_num, HN.out, HB2.out⟩
          case measure => simp [intOf]; omega
      · have hend : L ≤ i ∨ Lw ≤ i := by omega
        have HEnd := Lib.hid hend
        have HSl := Lib.hid ((hat.own (B := 0) ic_len (Nat.zero_le _)).read ic_len)
        rw [lessK_len] at HSl
        have HWt0 := Lib.hid (lessK_wt ws k L i hk)
        have HSame := Lib.hid (fun h0 => lessK_same ws k L i (by rw [HLw.out]; exact hend) h0)
        generalize hless : lessK ws k L i = less at HSl HWt0 HSame
        have HP1 := Lib.hid (Place_any (.slice a1 L c1) (.slice (some ⟨g, 0, none⟩) L L) hs less x sz 1 HX.out wr (HS.out.keep hb) HSl.out (by rw [HL.out]; omega) HSz2.out)
        have HMem : Hid (∀ j (h : j < (placeE hs less x sz 1).length), (placeE hs less x sz 1)[j] ≠ k) := Lib.hid (fun j h e => by
          have := (place_mem (List.getElem_mem h)).2
          rw [e, HWt0.out] at this
          omega)
        have HCg : Hid (Lw ≤ k ∨ ws.getD k 0 ≤ 0 → placeE hs less x sz 1 = placeE hs ws x sz 1) := Lib.hid (fun h0 => place_cong (fun j hj => HSame.out (by rw [HLw.out]; exact h0) j (by rw [HL.out] at hj; exact hj)) x sz 1)
        have HPlen : Hid ((placeE hs less x sz 1).length ≤ 64) := Lib.hid (placeF_len _ _ _ 64).1
        generalize placeE hs less x sz 1 = pl at HP1 HMem HCg HPlen
        clear hat hless
        clear hgo hend
        obtain ⟨n3, hn3⟩ : ∃ n, pl.length = n := ⟨_, rfl⟩
        have HN3 := Lib.hid hn3
        have hn9 : n3 ≤ 64 := by rw [← hn3]; exact HPlen.out
        clear hn3
        rcases Nat.lt_or_ge i L with hiL | hiL
        case' inl =>
          have hiL' : (i : Int) < L := by omega
          have hiW' : (Lw : Int) ≤ i := by have := HEnd.out; omega
          go_upto_region 12 with fail
          clear hiW'
        case' inr =>
          have hiL' : (L : Int) ≤ i := by omega
          go_upto_region 12 with fail
        all_goals
          clear hiL hiL'
          go_wp2_with fail
          refine HP1.out.mono ?_
          rintro e w3 ⟨v3, rfl, ho, hb3⟩
          obtain ⟨a3, c3, rfl⟩ := ho.slice
          have HO3 := Lib.hid (ho.read ic_len)
          rw [ints_len, HN3.out] at HO3 ⊢
          have HB3 := Lib.hid (HB.out.trans (hb3.mono HB.out.size))
          clear ho hb3 HP1
          go_wp2
          go_loopw [16] (fun vi wr => ∃ j : Nat, j ≤ n3 ∧ vi = .int .i64 j ∧ wr = w3) (fun j _ => n3 - (intOf j).toNat)
          case atStart => exact ⟨0, by omega, rfl, rfl⟩
          case round =>
            obtain ⟨j, hj, rfl, rfl⟩ := hrel
            by_cases hjn : j < n3
            · have hjn' : (j : Int) < n3 := by omega
              have hj0 : (0 : Int) ≤ j := by omega
              obtain ⟨b4, off4, c4', he, hbl, hcell⟩ := int_at' HO3.out (by rw [ints_len]; exact HN3.out) hjn
              obtain ⟨rfl, rfl⟩ : a3 = some ⟨b4, off4, none⟩ ∧ c3 = c4' := by cases he; exact ⟨rfl, rfl⟩
              have hjp : j < pl.length := by rw [HN3.out]; exact hjn
              have d1 := hcell j (by rw [ints_len]; exact hjp)
              have hje : (ints pl)[j]'(by rw [ints_len]; exact hjp) = (pl[j] : Int) := by simp [ints]
              rw [hje] at d1
              have hnk := HMem.out j hjp
              have heq : True → ((pl[j] : Int) == (k : Int)) = false := fun _ => by simp; omega
              obtain ⟨q, hq⟩ : ∃ q : Int, (pl[j] : Int) = q := ⟨_, rfl⟩
              rw [hq] at d1 heq
              clear he hbl hcell hjp hje hnk hq
              go_wp2
              clear d1 heq
              go_roundw
              case rel => exact ⟨j + 1, by omega, by go_num, trivial⟩
              case measure => simp [intOf]; omega
            · obtain rfl : j = n3 := by omega
              by_cases hA : Lw ≤ k
              · have hA' : (Lw : Int) ≤ k := by omega
                have HP2 := Lib.hid (Place_any (.slice a1 L c1) (.slice aw Lw cw) hs ws x sz 1 HX.out wr (HS.out.keep HB3.out) (HW.out.keep HB3.out) (by rw [HL.out]; omega) HSz2.out)
                rw [← HCg.out (.inl hA)] at HP2
                clear hA
                go_upto_region 19 with fail
                go_wp2_with (first | (go_at_call 15; refine HP2.out.mono ?_; rintro e w4 ⟨v4, rfl, ho4, hb4⟩; obtain ⟨a4, c4, rfl⟩ := ho4.slice; have HO4 := Lib.hid (ho4.read ic_len); have HO3b := Lib.hid (HO3.out.keep hb4); have HB4 := Lib.hid (HB3.out.trans (hb4.mono HB3.out.size)); clear ho4 hb4) | (go_at_call 12; refine (lintsR_any _ _ (ints pl) _ HO3b.out HO4.out).mono ?_; rintro e w5 ⟨rfl, hb5⟩; have HB5 := Lib.hid (HB4.out.trans (hb5.mono HB4.out.size)); clear hb5) | (go_at_call 17; refine (awake_any _).mono ?_; rintro e w6 ⟨rfl, hb⟩; have HBe := Lib.hid (HB5.out.trans (hb.mono HB5.out.size)); clear hb))
                go_ret
                exact ⟨rfl, HBe.out⟩
              · have hA' : ¬ (Lw : Int) ≤ k := by omega
                have hkw : k < Lw := by omega
                have hkw' : (k : Int) < Lw := by omega
                have hkl : k < ws.length := by rw [HLw.out]; exact hkw
                obtain ⟨b2, off, c2', he, hbl, hcell⟩ := int_at' (HW.out.keep HB3.out) HLw.out hkw
                obtain ⟨rfl, rfl⟩ : aw = some ⟨b2, off, none⟩ ∧ cw = c2' := by cases he; exact ⟨rfl, rfl⟩
                have d1 := hcell k hkl
                have hgd : ws.getD k 0 = ws[k] := by rw [List.getD_eq_getElem?_getD, List.getElem?_eq_getElem hkl]; rfl
                rw [hgd] at HCg
                have HP2 := Lib.hid (Place_any (.slice a1 L c1) (.slice (some ⟨b2, off, none⟩) Lw cw) hs ws x sz 1 HX.out wr (HS.out.keep HB3.out) (HW.out.keep HB3.out) (by rw [HL.out]; omega) HSz2.out)
                generalize ws[k] = z at d1 HCg
                clear he hbl hcell hgd hkl hA
                by_cases hz : z ≤ 0
                · rw [← HCg.out (.inr hz)] at HP2
                  go_upto_region 19 with fail
                  clear d1
                  go_wp2_with (first | (go_at_call 15; refine HP2.out.mono ?_; rintro e w4 ⟨v4, rfl, ho4, hb4⟩; obtain ⟨a4, c4, rfl⟩ := ho4.slice; have HO4 := Lib.hid (ho4.read ic_len); have HO3b := Lib.hid (HO3.out.keep hb4); have HB4 := Lib.hid (HB3.out.trans (hb4.mono HB3.out.size)); clear ho4 hb4) | (go_at_call 12; refine (lintsR_any _ _ (ints pl) _ HO3b.out HO4.out).mono ?_; rintro e w5 ⟨rfl, hb5⟩; have HB5 := Lib.hid (HB4.out.trans (hb5.mono HB4.out.size)); clear hb5) | (go_at_call 17; refine (awake_any _).mono ?_; rintro e w6 ⟨rfl, hb⟩; have HBe := Lib.hid (HB5.out.trans (hb.mono HB5.out.size)); clear hb))
                  go_ret
                  exact ⟨rfl, HBe.out⟩
                · clear HP2
                  go_upto_region 20 with fail
                  clear d1
                  go_wp2_with (go_at_call 17; refine (awake_any _).mono ?_; rintro e w6 ⟨rfl, hb⟩; have HBe := Lib.hid (HB3.out.trans (hb.mono HB3.out.size)); clear hb)
                  go_ret
                  exact ⟨rfl, HBe.out⟩

--LIFT
set_option maxRecDepth 100000 in
theorem liftedStays (os : Os) (started : os.Started) (H : Type) (enc : TypeId × Value → H) :
    ReturnsInHanded {} Try.checked os 7 .any (Rows.ruleStaysSpec.pre6 enc Try.prog Try.f7 Rows.ruleStaysRow.domain false) (Rows.ruleStaysSpec.post enc Try.prog Try.f7 false true false false) := by
  refine lift.law (C := Try.checked) own started (by kernel_rfl) Try.func7
    (ChangeSpec.witness6 (enc := enc) (C := Try.checked) false ⟨#[], #[.slice none 0 0, .slice none 0 0, .int .u32 0, .int .i64 0, .int .i64 0], []⟩ 8 (by kernel_rfl) (by kernel_rfl) (by kernel_rfl) (by kernel_rfl)) laidOut (by kernel_rfl) 4 Try.underlying4 (by kernel_rfl) rfl ?_ ?_
  · intro ds hd
    match ds, hd with
    | [_, _, _, _, _], _ => rfl
  · intro W base args ds ps hg
    have hA : DataW.TrodAll enc Try.prog W 0 (fun _ => true) true Try.f7.params.toList args.toList ds ps := hg.read
    have hval : ∀ (j : Nat) t v, Try.f7.params[j]? = some t → args[j]? = some v → Value.okWide Try.prog W .any base t v := hg.ok
    rw [Try.params7] at hA hval
    obtain ⟨v0, vs0, d0, ds0, p0, q0, hargs, rfl, rfl, h0, r0⟩ := trodAll_cons hA
    obtain ⟨v1, vs1, d1, ds1, p1, q1, rfl, rfl, rfl, h1, r1⟩ := trodAll_cons r0
    obtain ⟨v2, vs2, d2, ds2, p2, q2, rfl, rfl, rfl, h2, r2⟩ := trodAll_cons r1
    obtain ⟨v3, vs3, d3, ds3, p3, q3, rfl, rfl, rfl, h3, r3⟩ := trodAll_cons r2
    obtain ⟨v4, vs4, d4, ds4, p4, q4, rfl, rfl, rfl, h4, r4⟩ := trodAll_cons r3
    obtain ⟨rfl, rfl, rfl⟩ := trodAll_nil r4
    obtain rfl : args = #[v0, v1, v2, v3, v4] := by cases args; simp_all
    obtain ⟨fs0, hs0, hok0, hcap0⟩ := ints_open (hval 0 22 v0 rfl rfl) h0
    obtain ⟨fs1, hs1, hok1, hcap1⟩ := i64s_open (hval 1 23 v1 rfl rfl) h1
    obtain ⟨z2, rfl, rfl, rfl, w2⟩ := open_int Try.underlying24 (hval 2 24 v2 rfl rfl) h2
    have u2 := u32_pos z2 w2
    obtain ⟨n2, rfl⟩ : ∃ n : Nat, z2 = n := ⟨z2.toNat, by omega⟩
    obtain ⟨z3, rfl, rfl, rfl, w3⟩ := open_int Try.underlying3 (hval 3 3 v3 rfl rfl) h3
    obtain ⟨z4, rfl, rfl, rfl, w4⟩ := open_int Try.underlying3 (hval 4 3 v4 rfl rfl) h4
    exact walkStays v0 v1 fs0 fs1 n2 z3 z4 (by omega) W hs0 hs1 hcap0 (i64_of w3)

theorem stays_holds : Rows.RuleStaysSaid :=
  OpenClaim.holds_of_wide 7 Try.f7 rfl rfl rfl rfl rfl rfl rfl ⟨rfl, rfl, rfl, rfl, rfl⟩ rfl rfl rfl rfl rfl (by kernel_rfl) Try.func7 (by kernel_rfl)
    (of_decide_eq_true (by kernel_rfl)) (by unfold Func.isWrapper; first | (rw [if_pos (by decide +kernel)]; kernel_rfl) | (rw [if_neg (by decide +kernel)]; exact ⟨rfl, rfl⟩))
    (fun os started H enc _ => liftedStays os started H enc)

#print axioms stays_holds
end Go.Proofs.Ytfmphjplelganaa.crush
