/- The document's items, and a try. -/
import Derived.Test.YtngmcolbpdinmaaRows
import Derived.Test.YtngmcolbpdinmaaRuleRHosts
import Derived.Test.YtngmcolbpdinmaaRulePl
namespace Go.Proofs.Ytngmcolbpdinmaa.crush
open Go.RowKit
open Go.Proofs.Ytngmcolbpdinmaa.kit Go.Proofs.Ytngmcolbpdinmaa.own
set_option linter.unusedVariables false

/-- Items of the call's own are handed back. -/
def ItmI (w : World) (ns : List It) (e : Ending) (w' : World) : Prop := ∃ v, e = .returned v ∧ Own wc 2 58 w' w.heap.size v ns ∧ Below w.heap.size w w'

set_option maxHeartbeats 16000000 in
set_option maxRecDepth 100000 in
theorem rItems_any (v vw : Value) (hs ws : List Int) (w : World) (h : Sl ic 1 w v hs) (hw : Sl ic 1 w vw ws) (hl : hs.length ≤ 65536) : Calls Try.prog 34 #[v, vw] w (ItmI w (itemsE hs ws)) := by
  obtain ⟨a, c, rfl⟩ := h.slice
  obtain ⟨aw, cw, rfl⟩ := hw.slice
  have HHo := Lib.hid (rHosts_any _ hs w h hl)
  have HH := Lib.hid h; have HW := Lib.hid hw
  have hol := onceL_len hs
  have HIe : Hid (itemsE hs ws = (onceL hs).map fun z => (z, hostW hs ws z hs.length)) := Lib.hid rfl
  have mixed : Try.prog.follows .mixedOrders = true := by kernel_rfl
  obtain ⟨L, hL⟩ : ∃ L, hs.length = L := ⟨_, rfl⟩
  have HL := Lib.hid hL
  rw [hL] at HH HHo hol HIe hl ⊢
  generalize ws.length = Lw at HW ⊢
  generalize onceL hs = ids at HHo hol HIe
  obtain ⟨m, hm⟩ : ∃ m, ids.length = m := ⟨_, rfl⟩
  have HM := Lib.hid hm
  rw [hm] at hol
  clear h hw hL hm
  go_enter Try.func34, Try.ntmps34
  go_wp2_with fail
  refine HHo.out.mono ?_
  rintro en w2 ⟨v2, rfl, ho, hb⟩
  obtain ⟨a2, c2, rfl⟩ := ho.slice
  rw [HM.out] at ho ⊢
  have HO := Lib.hid (ho.read ic_len); have HB := Lib.hid hb
  clear ho hb HHo
  go_wp2
  go_loopw [6, 7] (fun v6 vi wr => ∃ i : Nat, i ≤ m ∧ vi = .int .i64 i ∧ Own wc 2 58 wr w2.heap.size v6 ((itemsE hs ws).take i) ∧ Below w2.heap.size w2 wr) (fun _ i _ => m - (intOf i).toNat)
  case atStart => exact ⟨0, by omega, rfl, by rw [List.take_zero]; exact Own.nil _ _ _, Below.refl _ _⟩
  case round =>
    obtain ⟨i, hi, rfl, ho6, hb⟩ := hrel
    obtain ⟨a6, c6, rfl⟩ := ho6.slice
    have hle : (itemsE hs ws).length = m := by rw [HIe.out, List.length_map]; exact HM.out
    by_cases hlt : i < m
    · have hlt' : (i : Int) < m := by omega
      have hi0 : (0 : Int) ≤ i := by omega
      have hil : i < ids.length := by rw [HM.out]; exact hlt
      have hie : i < (itemsE hs ws).length := by rw [hle]; exact hlt
      obtain ⟨b2, off2, c2', he, hbl, hcell⟩ := int_at' (HO.out.keep hb) HM.out hlt
      obtain ⟨rfl, rfl⟩ : a2 = some ⟨b2, off2, none⟩ ∧ c2 = c2' := by cases he; exact ⟨rfl, rfl⟩
      obtain ⟨z, hz⟩ : ∃ z, ids[i] = z := ⟨_, rfl⟩
      have HNm : Hid (∀ u, Below wr.heap.size wr u → u.cell? ⟨b2, off2 + i, none⟩ = some (.int .i64 z)) := Lib.hid (fun u hu => by
        rw [← hz, ← hcell i hil]
        simp only [World.cell?, hu.block b2 hbl])
      have HTk : Hid ((itemsE hs ws).take (i + 1) = (itemsE hs ws).take i ++ [(z, hostW hs ws z L)]) := Lib.hid (by
        rw [List.take_succ_eq_append_getElem hie]
        congr 2
        simp only [HIe.out, List.getElem_map, hz])
      have hl6 : ((itemsE hs ws).take i).length = i := by rw [List.length_take, hle]; omega
      generalize (itemsE hs ws).take i = it6 at ho6 HTk hl6 ⊢
      obtain ⟨it7, h7⟩ : ∃ l, (itemsE hs ws).take (i + 1) = l := ⟨_, rfl⟩
      have H7 := Lib.hid h7
      rw [h7] at HTk
      have HL6 := Lib.hid hl6
      rw [hl6] at ho6 ⊢
      have HO6 := Lib.hid ho6; have HB6 := Lib.hid hb
      obtain ⟨W, rfl⟩ : ∃ W, W = wr := ⟨_, rfl⟩
      clear he hbl hcell hz hil hie hle ho6 hb h7 hl6
      go_wp2
      go_loopw [8, 9] (fun v8 vk wr => ∃ k : Nat, k ≤ L ∧ vk = .int .i64 k ∧ v8 = .int .i64 (hostW hs ws z k) ∧ Below W.heap.size W wr) (fun _ k _ => L - (intOf k).toNat)
      case atStart => exact ⟨0, by omega, rfl, rfl, Below.refl _ _⟩
      case round =>
        obtain ⟨k, hk, rfl, rfl, hbi⟩ := hrel
        have HBi := Lib.hid hbi
        have hr1 := hostW_range hs ws z k
        have hr2 := wtAt_range ws k
        by_cases hkL : k < L
        · have hkL' : (k : Int) < L := by omega
          have hk0 : (0 : Int) ≤ k := by omega
          have hkl : k < hs.length := by rw [HL.out]; exact hkL
          have hbw := HB.out.trans ((HB6.out.trans (hbi.mono HB6.out.size)).mono HB.out.size)
          obtain ⟨b3, off3, c3', he, hbl, hcell⟩ := int_at' (HH.out.keep hbw) HL.out hkL
          obtain ⟨rfl, rfl⟩ : a = some ⟨b3, off3, none⟩ ∧ c = c3' := by cases he; exact ⟨rfl, rfl⟩
          have d1 := hcell k hkl
          have d2 := HNm.out _ hbi
          have hgd : hs.getD k 0 = hs[k] := by rw [List.getD_eq_getElem?_getD, List.getElem?_eq_getElem hkl]; rfl
          have HSt : Hid (hostW hs ws z (k + 1) = if hs[k] = z then min (hostW hs ws z k + wtAt ws k) 1048576 else hostW hs ws z k) := Lib.hid (by rw [hostW, hgd])
          have HWt := Lib.hid (fun u (hu : Below wr.heap.size wr u) => nrweight_any _ ws k (by omega) u ((HW.out.keep hbw).keep hu))
          obtain ⟨hw1, h1⟩ : ∃ q, hostW hs ws z (k + 1) = q := ⟨_, rfl⟩
          have H1 := Lib.hid h1
          rw [h1] at HSt
          clear h1
          generalize hostW hs ws z k = hw0 at HSt hr1 ⊢
          generalize wtAt ws k = wt at HSt HWt hr2
          generalize hs[k] = y at d1 HSt
          clear he hbl hcell hgd hkl hbw hbi
          by_cases hyz : y = z
          · rw [if_pos hyz] at HSt
            have heq : True → (y == z) = true := fun _ => by rw [hyz]; simp
            go_upto_region 10 with fail
            go_quiet (fail)
            have HD := Lib.hid ((Below.refl wr.heap.size wr).drewN' nq)
            have HDj := Lib.hid (HBi.out.drewN' nq)
            clear d1 d2 heq hyz
            go_wp2_with (go_at_call 36; refine (HWt.out _ HD.out).mono ?_; rintro e w5 ⟨rfl, rfl⟩)
            go_roundw
            case rel => exact ⟨k + 1, by omega, by go_num, by rw [H1.out, HSt.out], HDj.out⟩
            case measure => simp [intOf]; omega
          · rw [if_neg hyz] at HSt
            have heq : True → (y == z) = false := fun _ => by simp [hyz]
            go_upto_region 10 with fail
            go_quiet (fail)
            have HD := Lib.hid (HBi.out.drewN' nq)
            clear d1 d2 heq hyz
            go_wp2
            go_roundw
            case rel => exact ⟨k + 1, by omega, by go_num, by rw [H1.out, HSt.out], HD.out⟩
            case measure => simp [intOf]; omega
        · obtain rfl : k = L := by omega
          have d2 := HNm.out _ hbi
          generalize hostW hs ws z k = hwz at HTk hr1 ⊢
          have HO6b := Lib.hid (HO6.out.below hbi)
          have HB6b := Lib.hid (HB6.out.trans (hbi.mono HB6.out.size))
          have hba := below_new wr (.cells #[.int .i64 z, .int .i64 hwz] 58)
          have HOa := Lib.hid (HO6b.out.below hba)
          have HBa := Lib.hid (HB6b.out.trans (hba.mono HB6b.out.size))
          have HNew : Hid (Sl wc 2 (wr.alloc (.cells #[.int .i64 z, .int .i64 hwz] 58)) (.slice (some ⟨wr.heap.size, 0, none⟩) 1 1) [(z, hwz)]) := Lib.hid (sl_new wc_len wr (z, hwz) _ _ rfl)
          clear hba hbi
          go_wp2_with (at_builtin; go_loud (refine app1Q wc_len wc_one (by decide) rfl _ _ 33 rfl w2.heap.size 58 _ (by rfl) 16 Try.underlying33 infoItm _ it6 rfl HOa.out _ (z, hwz) rfl HNew.out (by rw [HL6.out]; unfold maxLen; omega) (by rw [HL6.out]; omega) HBa.out.size ?_); intro v9 w9 ho9 hk9 _ _; obtain ⟨x9, y9, rfl⟩ := ho9.slice; rw [← HTk.out] at ho9 ⊢; have HO10 := Lib.hid ho9; have HB10 := Lib.hid (HBa.out.trans (hk9.toBelow.mono (Nat.le_refl _))); clear ho9 hk9)
          clear d2
          go_roundw
          case rel => exact ⟨i + 1, by omega, by go_num, by rw [H7.out]; exact HO10.out, HB10.out⟩
          case measure => simp [intOf]; omega
    · obtain rfl : i = m := by omega
      have e : (itemsE hs ws).take i = itemsE hs ws := List.take_of_length_le (by rw [hle]; exact Nat.le_refl _)
      rw [e] at ho6 ⊢
      have HO6 := Lib.hid ho6; have HB6 := Lib.hid (HB.out.trans (hb.mono HB.out.size))
      clear ho6 hb e
      go_wp2
      go_ret
      exact ⟨_, rfl, HO6.out.mono HB.out.size, HB6.out⟩
end Go.Proofs.Ytngmcolbpdinmaa.crush
