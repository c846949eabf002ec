/- The document's Cut. -/
import Derived.Test.YtalnmbfmfeaohaaGreatRows
import Derived.Test.YtalnmbfmfeaohaaGreatFlightRJoin
import Derived.Test.YtalnmbfmfeaohaaGreatFlightPlaysM
namespace Go.Proofs.YtalnmbfmfeaohaaGreat.flight
open Go.RowKit
open Go.Proofs.YtalnmbfmfeaohaaGreat.kit Go.Proofs.YtalnmbfmfeaohaaGreat.own
set_option linter.unusedVariables false
set_option linter.unusedSimpArgs false

theorem sl_zero {α : Type} {enc : α → List Value} {k : Nat} (w : World) (ax : Option Addr) (m cx : Nat) (h0 : m = 0) (h : ax = none → cx = 0) : Sl enc k w (.slice ax m cx) ([] : List α) := ⟨by simp, ax, cx, by rw [h0]; rfl, h, fun hp => by simp at hp⟩
/-- Where the first elements pass and the next does not. -/
theorem takeWhile_at {α : Type} (p : α → Bool) (l : List α) (k : Nat) (hk : k ≤ l.length) (h1 : ∀ j (hj : j < l.length), j < k → p l[j] = true) (h2 : ∀ (h : k < l.length), p l[k] = false) : l.takeWhile p = l.take k ∧ l.dropWhile p = l.drop k := by
  induction l generalizing k with
  | nil => simp at hk; subst hk; simp
  | cons x r ih =>
    cases k with
    | zero =>
      have h3 := h2 (by simp)
      simp only [List.getElem_cons_zero] at h3
      simp [h3]
    | succ m =>
      have h3 := h1 0 (by simp) (by omega)
      simp only [List.getElem_cons_zero] at h3
      have h4 := ih m (by simpa using hk) (fun j hj hjm => by have := h1 (j + 1) (by simpa using hj) (by omega); simpa using this) (fun h => by have := h2 (by simpa using h); simpa using this)
      simp [h3, h4.1, h4.2]

set_option maxHeartbeats 16000000 in
set_option maxRecDepth 100000 in
theorem rCut_any (v : Value) (f : Flt) (a b : Int) (w : World) (h : FlR w v f) (hl1 : f.list.length * 40 ≤ 140737488355328) (hl2 : (f.cut.length + 1) * 16 ≤ 140737488355328) (hcp : ∀ vn vl ax m cx, v = .agg #[vn, vl, .slice ax m cx] → m ≤ cx) :
    Calls Tryz.prog 21 #[v, .int .i64 a, .int .i64 b] w (TwoS w (rcutE f (a, b)).1 (rcutE f (a, b)).2) := by
  obtain ⟨vl, vc, rfl, hl, hc⟩ := id h
  have hb1 := below_new w (.cells #[.int .i64 f.next, vl, vc] 25)
  have hb2 := below_new (w.alloc (.cells #[.int .i64 f.next, vl, vc] 25)) (.cells #[.int .i64 0, .slice none 0 0, .slice none 0 0] 25)
  have hx1 := (fbox_new w f.next vl vc).keep hb2
  have hx2 := fbox_new (w.alloc (.cells #[.int .i64 f.next, vl, vc] 25)) 0 (.slice none 0 0) (.slice none 0 0)
  rw [World.size_alloc] at hx2
  have hb := hb1.trans (hb2.mono (by simp))
  have HFl := Lib.hid (h.keep hb); have HSc := Lib.hid (hc.keep hb)
  have HX1 := Lib.hid hx1; have HX2 := Lib.hid hx2; have HB := Lib.hid hb; have HL1 := Lib.hid hl1; have HL2 := Lib.hid hl2
  obtain ⟨al, cl, hvl⟩ := hl.slice
  subst hvl
  obtain ⟨ac, cc, hvc⟩ := hc.slice
  subst hvc
  have hcc : f.cut.length ≤ cc := hcp _ _ _ _ _ rfl
  clear hcp
  obtain ⟨n, l, c⟩ := f
  simp only at HX1 HX2 HB HFl HSc HL1 HL2 hcc ⊢
  have HCc := Lib.hid hcc
  obtain ⟨r, m, hr⟩ : ∃ r m, rcutE ⟨n, l, c⟩ (a, b) = (r, m) := ⟨_, _, rfl⟩
  rw [hr]
  simp only
  have HR := Lib.hid hr
  clear hl hc hb1 hb2 hx1 hx2 hb h hl1 hl2 hcc hr
  go_enter Tryz.func21, Tryz.ntmps21
  go_upto_region 1 with fail
  generalize (w.alloc (.cells #[.int .i64 n, _, _] 25)).alloc _ = W at HFl HSc HX1 HX2 HB ⊢
  generalize hN2 : w.heap.size + 1 = N2 at HX2 ⊢
  obtain ⟨N, hN⟩ : ∃ N, w.heap.size = N := ⟨_, rfl⟩
  rw [hN] at HX1 ⊢
  have HN := Lib.hid (And.intro hN hN2)
  clear hN hN2
  obtain ⟨e1, e2, e3⟩ := HX1.out.cells
  by_cases hab : a = b
  · have HP : Hid (r = ⟨n, l, c⟩ ∧ m = 0) := Lib.hid (by have q := HR.out; unfold rcutE at q; rw [if_pos hab] at q; cases q; exact ⟨rfl, rfl⟩)
    subst hab
    go_wp2_with fail
    refine (rCopy_any _ ⟨n, l, c⟩ W HFl.out HL1.out (by have := HL2.out; simp only; omega)).mono ?_
    rintro e w6 ⟨vl2, vc2, rfl, ho1, ho2, hb2⟩
    simp only at ho1 ho2 ⊢
    obtain ⟨a3, d1, rfl⟩ := ho1.slice
    obtain ⟨a4, d2, rfl⟩ := ho2.slice
    have HX26 := Lib.hid (HX2.out.keep hb2)
    have HO1 := Lib.hid ho1; have HO2 := Lib.hid ho2; have HB6 := Lib.hid (HB.out.trans (hb2.mono HB.out.size))
    clear e1 e2 e3 ho1 ho2 hb2
    obtain ⟨k1, k2, k3⟩ := HX26.out.cells
    obtain ⟨f1, f2, f3⟩ := HX26.out.thaw
    go_wp2
    have hlt := HX2.out.lt
    have hF := HX26.out.set n (.slice a3 l.length d1) (.slice a4 c.length d2)
    have hO1 := (HO1.out.set3 hlt (.int .i64 n) (.slice a3 l.length d1) (.slice a4 c.length d2)).mono (show w.heap.size ≤ W.heap.size from HB.out.size)
    have hO2 := (HO2.out.set3 hlt (.int .i64 n) (.slice a3 l.length d1) (.slice a4 c.length d2)).mono (show w.heap.size ≤ W.heap.size from HB.out.size)
    have hB := below_set3 HB6.out (show w.heap.size ≤ N2 by have := HN.out; omega) (.int .i64 n) (.slice a3 l.length d1) (.slice a4 c.length d2)
    obtain ⟨rfl, rfl⟩ := HP.out
    refine bodyPost_ret (retF2 rfl rfl hF) rfl ?_
    exact ⟨_, _, rfl, hO1, hO2, hB⟩
  · have HNe := Lib.hid hab
    go_wp2_with fail
    refine (rlose_any _ ⟨n, l, c⟩ a b false W HFl.out HL1.out (by have := HL2.out; simp only; omega)).mono ?_
    rintro e w1 ⟨vl1, vc1, rfl, ho1, ho2, hb1⟩
    simp only at ho1 ho2 ⊢
    obtain ⟨l1, hl1⟩ : ∃ l1, l.filter (fun x => !loseP a b false x) = l1 := ⟨_, rfl⟩
    have HLs := Lib.hid hl1
    rw [hl1] at ho1 ⊢
    obtain ⟨a1, c1, rfl⟩ := ho1.slice
    obtain ⟨a2, c2, rfl⟩ := ho2.slice
    have hb7 := below_new w1 (.cells #[.int .i64 n, .slice a1 l1.length c1, .slice a2 c.length c2] 25)
    have hb8 := below_new (w1.alloc (.cells #[.int .i64 n, .slice a1 l1.length c1, .slice a2 c.length c2] 25)) (.cells #[.int .i64 a, .int .i64 b] 40)
    have hx8 := alloc_at (w1.alloc (.cells #[.int .i64 n, .slice a1 l1.length c1, .slice a2 c.length c2] 25)) (.cells #[.int .i64 a, .int .i64 b] 40)
    have hx3 := (fbox_new w1 n (.slice a1 l1.length c1) (.slice a2 c.length c2)).keep hb8
    rw [World.size_alloc] at hx8
    have hbb := hb7.trans (hb8.mono (by simp))
    have hbw := hb1.trans (hbb.mono hb1.size)
    have HX3 := Lib.hid hx3; have HX8 := Lib.hid hx8
    have HX17 := Lib.hid (HX1.out.keep hbw); have HX27 := Lib.hid (HX2.out.keep hbw); have HFl7 := Lib.hid (HFl.out.keep hbw); have HSc7 := Lib.hid (HSc.out.keep hbw)
    have HB7 := Lib.hid (HB.out.trans (hbw.mono HB.out.size)); have HBW7 := Lib.hid hbw
    have HO1 := Lib.hid (ho1.below hbb); have HO2 := Lib.hid (ho2.below hbb)
    have HBlk1 := Lib.hid ho1.blk; have HBlk2 := Lib.hid ho2.blk
    have HSz := Lib.hid hb1.size
    clear ho1 ho2 hb1 hb7 hb8 hx8 hx3 hbb hbw hl1 hab e1 e2 e3
    go_upto_region 5 with fail
    generalize ((w1.alloc (.cells #[.int .i64 n, .slice a1 l1.length c1, .slice a2 c.length c2] 25)).alloc (.cells #[.int .i64 a, .int .i64 b] 40)) = W7 at HX3 HX8 HX17 HX27 HFl7 HSc7 HB7 HBW7 HO1 HO2 ⊢
    obtain ⟨N3, hN3⟩ : ∃ N3, w1.heap.size = N3 := ⟨_, rfl⟩
    rw [hN3] at HX3 HX8 HBlk1 HBlk2 HSz ⊢
    obtain ⟨N8, hN8⟩ : ∃ N8, N3 + 1 = N8 := ⟨_, rfl⟩
    rw [hN8] at HX8 ⊢
    have HNN := Lib.hid (show N2 = N + 1 ∧ w.heap.size = N ∧ N2 < N3 ∧ N8 = N3 + 1 ∧ W.heap.size ≤ N3 from ⟨by have := HN.out; omega, HN.out.1, by have := HX2.out.lt; have := HSz.out; omega, hN8.symm, HSz.out⟩)
    clear hN3 hN8
    obtain ⟨e1, e2, e3⟩ := HX17.out.cells
    obtain ⟨y1, y2⟩ := wcells_at (x := (a, b)) (range_of_cells HX8.out)
    simp only [Nat.zero_add] at y1 y2
    go_wp2_with fail
    refine (place_any _ ⟨n, l, c⟩ (a, b) W7 HFl7.out).mono ?_
    rintro e w2 ⟨hb2, hcase⟩
    have HX32 := Lib.hid (HX3.out.keep hb2); have HX22 := Lib.hid (HX27.out.keep hb2); have HX12 := Lib.hid (HX17.out.keep hb2)
    have HX82 := Lib.hid ((hb2.block _ (Array.getElem?_eq_some_iff.1 HX8.out).1).trans HX8.out)
    have HSc2 := Lib.hid (HSc7.out.keep hb2)
    have HO12 := Lib.hid (HO1.out.below hb2); have HO22 := Lib.hid (HO2.out.below hb2)
    have HB2 := Lib.hid (HB7.out.trans (hb2.mono HB7.out.size)); have HBW2 := Lib.hid (HBW7.out.trans (hb2.mono HBW7.out.size))
    clear e1 e2 e3 y1 y2 hb2
    have hba : (Value.slice a1 l1.length c1).ownBlock ≠ some N2 := fun e => by have := (HBlk1.out N2 e).1; have := HX2.out.lt; omega
    have hbb : (Value.slice a2 c.length c2).ownBlock ≠ some N2 := fun e => by have := (HBlk2.out N2 e).1; have := HX2.out.lt; omega
    have HBa := Lib.hid hba; have HBb := Lib.hid hbb
    clear hba hbb
    rcases hcase with ⟨hin, rfl⟩ | ⟨i, hi, hci, rfl⟩
    · simp only at hin
      have HP : Hid (r = ⟨n, l1, c.takeWhile (fun z => ltW z (a, b)) ++ (a, b) :: c.dropWhile (fun z => ltW z (a, b))⟩ ∧ m = (l.length : Int) - l1.length) := Lib.hid (by
        have q := HR.out; unfold rcutE at q; rw [if_neg HNe.out] at q; simp only [if_neg hin, HLs.out] at q; cases q; exact ⟨rfl, rfl⟩)
      clear hin
      have hnl : c.length * 16 ≤ 140737488355328 := by have := HL2.out; omega
      have mixed : Tryz.prog.follows .mixedOrders = true := by kernel_rfl
      obtain ⟨L, hL⟩ : ∃ L, c.length = L := ⟨_, rfl⟩
      have HL := Lib.hid hL
      rw [hL] at hnl HX12 HSc2
      clear hL HX3 HX8 HX17 HX27 HFl7 HSc7 HB7 HBW7 HO1 HO2
      go_wp2
      go_loopw [12] (fun v12 wr => ∃ k : Nat, k ≤ L ∧ v12 = .int .i64 k ∧ (∀ j (hj : j < c.length), j < k → ltW c[j] (a, b) = true) ∧ Below w2.heap.size w2 wr) (fun v12 _ => L - (intOf v12).toNat)
      case atStart => exact ⟨0, Nat.zero_le _, rfl, fun j _ h => by omega, Below.refl _ _⟩
      case round =>
        obtain ⟨k, hk, rfl, hall, hb⟩ := hrel
        have HW := Lib.hid hb; have HAll := Lib.hid hall
        clear hb hall
        obtain ⟨e1, e2, e3⟩ := (HX12.out.keep HW.out).cells
        by_cases hlt : k < L
        · have hlt' : (k : Int) < L := by omega
          have hk0 : (0 : Int) ≤ k := by omega
          have hi : k < c.length := by rw [HL.out]; exact hlt
          obtain ⟨y1, y2⟩ := wcells_at (x := (a, b)) (range_of_cells ((HW.out.block _ (Array.getElem?_eq_some_iff.1 HX82.out).1).trans HX82.out))
          simp only [Nat.zero_add] at y1 y2
          obtain ⟨_, a', cap', he, -, hcell⟩ := HSc2.out.keep HW.out
          obtain ⟨bk, off, hak, hbl, hcell⟩ := hcell (by omega)
          have hax : ac = some ⟨bk, off, none⟩ := by injection he with h1 h2 h3; rw [h1, hak]
          obtain ⟨x1, x2⟩ := wcells_at (hcell k hi)
          obtain ⟨x, hx⟩ : ∃ x, c[k] = x := ⟨_, rfl⟩
          have HX := Lib.hid hx
          rw [hx] at x1 x2
          obtain ⟨p, q⟩ := x
          simp only at x1 x2
          subst hax
          clear he hak hbl hcell hx
          go_upto_region 8 with fail
          have hbl := cell_lt x1
          have hNl := cell_lt e3
          have hyl := cell_lt y1
          have b1 := cell_grown (a := ⟨bk, off + k * 2, none⟩) hbl x1
          have b2 := cell_grown (a := ⟨bk, off + k * 2 + 1, none⟩) hbl x2
          have b3 := cell_grown (a := ⟨N8, 0, none⟩) hyl y1
          have b4 := cell_grown (a := ⟨N8, 1, none⟩) hyl y2
          have b5 := cell_grown (a := ⟨N, 2, none⟩) hNl e3
          have hord := fun n os => less_any (p, q) (a, b) (Sort.grow (wr.drewN n) os)
          simp only at hord
          obtain ⟨r8, hr8⟩ : ∃ r8, ltW (p, q) (a, b) = r8 := ⟨_, rfl⟩
          rw [hr8] at hord
          have HRr := Lib.hid hr8
          have hwk : True → wrap64 ((k : Int) + 1) = ((k + 1 : Nat) : Int) := fun _ => by
            rw [IntWalk.wrap64_in _ ⟨by omega, by omega⟩]; push_cast; omega
          clear x1 x2 y1 y2 e1 e2 e3 hr8 hbl hNl hyl
          cases r8 with
          | true =>
            go_quiet_grown (first | (go_at_call 10; exact Calls.grown_of (hord _ _)))
            have HBd := Lib.hid (HW.out.trans ((grow_below (w := wr) ⟨nq, osq, rfl⟩).mono HW.out.size))
            simp only
            generalize (Sort.grow (wr.drewN nq) osq) = W9 at HBd ⊢
            clear b1 b2 b3 b4 b5 hord
            go_wp2
            go_roundw
            case rel =>
              refine ⟨k + 1, by omega, by go_num, fun j hj hjk => ?_, HBd.out⟩
              rcases Nat.lt_or_ge j k with h4 | h4
              · exact HAll.out j hj h4
              · obtain rfl : j = k := by omega
                rw [HX.out]; exact HRr.out
            case measure => simp [intOf]; omega
          | false =>
            go_quiet_grown (first | (go_at_call 10; exact Calls.grown_of (hord _ _)))
            have HBd := Lib.hid (HW.out.trans ((grow_below (w := wr) ⟨nq, osq, rfl⟩).mono HW.out.size))
            simp only
            generalize (Sort.grow (wr.drewN nq) osq) = W9 at HBd ⊢
            clear b1 b2 b3 b4 b5 hord
            have hS9 : Sl wc 2 W9 (.slice (some ⟨bk, off, none⟩) c.length cc) c := by rw [HL.out]; exact HSc2.out.keep HBd.out
            have HSa := Lib.hid (sl_take hS9 k (by rw [HL.out]; exact hk))
            have HS9 := Lib.hid hS9
            have HO := Lib.hid (Own.nil (enc := wc) (k := 2) W9 40 W9.heap.size)
            have HZ1 := Lib.hid (HX12.out.keep HBd.out); have HZ2 := Lib.hid (HX22.out.keep HBd.out); have HZ3 := Lib.hid (HX32.out.keep HBd.out)
            have HZ8 := Lib.hid ((HBd.out.block _ (Array.getElem?_eq_some_iff.1 HX82.out).1).trans HX82.out)
            have HOl := Lib.hid (HO12.out.below HBd.out); have HBz := Lib.hid (HB2.out.trans (HBd.out.mono HB2.out.size)); have HBWz := Lib.hid (HBW2.out.trans (HBd.out.mono HBW2.out.size))
            have hlt2 : (c.take k).length = k := by rw [List.length_take, HL.out]; omega
            have HLt := Lib.hid hlt2
            have hkc : (k : Int) ≤ cc := by have := HCc.out; have := HL.out; omega
            have hck : ¬ cc = k := by have := HCc.out; have := HL.out; omega
            clear hS9 hlt2
            obtain ⟨e1, e2, e3⟩ := HZ1.out.cells
            go_upto_region 11 with (at_builtin; refine appSl wc_len wc_one (by decide) rfl _ _ 23 rfl W9.heap.size 40 _ (by rfl) 16 Tryz.underlying23 infoWay _ [] rfl HO.out _ (c.take k) rfl HSa.out (by have := HL2.out; rw [HLt.out]; unfold maxLen; simp; omega) (by have := HL2.out; have := HL.out; rw [HLt.out]; simp; omega) (Nat.le_refl _) ?_; intro v4 w4 ho hk4; rw [List.nil_append] at ho; obtain ⟨x4, y4, hv4⟩ := ho.slice; rw [HLt.out] at hv4; subst hv4; have HO4 := Lib.hid ho; have HK := Lib.hid hk4.toBelow; clear ho hk4 e1 e2 e3)
            obtain ⟨y1, y2⟩ := wcells_at (x := (a, b)) (range_of_cells ((HK.out.block _ (Array.getElem?_eq_some_iff.1 HZ8.out).1).trans HZ8.out))
            simp only [Nat.zero_add] at y1 y2
            have hbn := below_new w4 (.cells (wc (a, b)).toArray 40)
            have HSn := Lib.hid (sl_new wc_len w4 (a, b) 40 _ rfl)
            have HOa := Lib.hid (HO4.out.below hbn)
            have HBn := Lib.hid (HK.out.trans (hbn.mono HK.out.size))
            clear hbn
            go_upto_region 12 with (at_builtin; refine appSl wc_len wc_one (by decide) rfl _ _ 23 rfl W9.heap.size 40 _ (by rfl) 16 Tryz.underlying23 infoWay _ (c.take k) rfl HOa.out _ [(a, b)] rfl HSn.out (by have := HL2.out; rw [HLt.out]; unfold maxLen; simp; omega) (by have := HL2.out; have := HL.out; rw [HLt.out]; simp; omega) HBn.out.size ?_; intro v5 w5 ho hk5; obtain ⟨x5, y5, hv5⟩ := ho.slice; rw [List.length_append, List.length_cons, List.length_nil, Nat.zero_add, HLt.out] at hv5; subst hv5; have HO5 := Lib.hid ho; have HK5 := Lib.hid (HBn.out.trans (hk5.toBelow.mono (Nat.le_refl _))); clear ho hk5 y1 y2)
            have hS5 := sl_drop (HS9.out.keep HK5.out) k (by have := HL.out; omega) ⟨bk, off + k * 2, none⟩ (cc - k) (fun _ => rfl)
            rw [HL.out] at hS5
            have HS5 := Lib.hid hS5
            clear hS5
            have HLd : Hid ((c.drop k).length = c.length - k) := Lib.hid (List.length_drop ..)
            have HX15 := Lib.hid (HZ1.out.keep HK5.out); have HX35 := Lib.hid (HZ3.out.keep HK5.out)
            have hk1 : (k : Int) ≤ c.length := by have := HL.out; omega
            obtain ⟨e1, e2, e3⟩ := HX15.out.cells
            go_upto_region 13 with (at_builtin; refine appSl wc_len wc_one (by decide) rfl _ _ 23 rfl W9.heap.size 40 _ (by rfl) 16 Tryz.underlying23 infoWay _ (c.take k ++ [(a, b)]) rfl HO5.out _ (c.drop k) rfl HS5.out (by have := HL2.out; rw [List.length_append, HLt.out, HLd.out]; unfold maxLen; simp; omega) (by have := HL2.out; have := HL.out; rw [List.length_append, HLt.out, HLd.out]; simp; omega) HK5.out.size ?_; intro v6 w6 ho hk6; obtain ⟨x6, y6, hv6⟩ := ho.slice; obtain ⟨m6, hm6⟩ : ∃ m, (c.take k ++ [(a, b)] ++ c.drop k).length = m := ⟨_, rfl⟩; rw [hm6] at hv6; subst hv6; clear hm6; have HO6 := Lib.hid ho; have HK6 := Lib.hid (HK5.out.trans (hk6.toBelow.mono (Nat.le_refl _))); clear ho hk6 e1 e2 e3; have HX36 := Lib.hid (HZ3.out.keep HK6.out); obtain ⟨k1, k2, k3⟩ := HX36.out.cells; obtain ⟨t1, t2, t3⟩ := HX36.out.thaw)
            have hne3 : (Value.slice x6 m6 y6).ownBlock ≠ some N3 := fun e => by have := (HO6.out.blk N3 e).1; have := HZ3.out.lt; omega
            have hne2 : (Value.slice x6 m6 y6).ownBlock ≠ some N2 := fun e => by have := (HO6.out.blk N2 e).1; have := HZ2.out.lt; omega
            have hne1 : (Value.slice a1 l1.length c1).ownBlock ≠ some N3 := fun e => by have := (HBlk1.out N3 e).2; omega
            have hq23 : ¬ N2 = N3 := by have := HNN.out; omega
            have HX37 := Lib.hid (show FBox (w6.setCell ⟨N3, 2, none⟩ (.slice x6 m6 y6)) N3 n (.slice a1 l1.length c1) (.slice x6 m6 y6) from FBox.set2 HX36.out (.slice x6 m6 y6))
            have HX27 := Lib.hid (show FBox (w6.setCell ⟨N3, 2, none⟩ (.slice x6 m6 y6)) N2 0 (.slice none 0 0) (.slice none 0 0) from (heap_setCell_other _ _ _ _ hq23).trans (HZ2.out.keep HK6.out))
            have HO17 := Lib.hid ((HOl.out.below HK6.out).setOther hne1 2 (.slice x6 m6 y6)); have HO27 := Lib.hid (HO6.out.setOther hne3 2 (.slice x6 m6 y6))
            have HBy := Lib.hid ((HBz.out.trans (HK6.out.mono HBz.out.size)).setCell (p := ⟨N3, 2, none⟩) (show w.heap.size ≤ N3 by have := HNN.out; omega) (.slice x6 m6 y6))
            generalize (w6.setCell ⟨N3, 2, none⟩ (.slice x6 m6 y6)) = Wz at HX37 HX27 HO17 HO27 HBy ⊢
            clear k1 k2 k3 t1 t2 t3
            have hF := HX27.out.set n (.slice a1 l1.length c1) (.slice x6 m6 y6)
            have hO1 := (((HO17.out.mono HB.out.size).setOther HBa.out 0 (.int .i64 n)).setOther HBa.out 1 (.slice a1 l1.length c1)).setOther HBa.out 2 (.slice x6 m6 y6)
            have hO2 := (((HO27.out.setOther hne2 0 (.int .i64 n)).setOther hne2 1 (.slice a1 l1.length c1)).setOther hne2 2 (.slice x6 m6 y6)).mono HBz.out.size
            have hB := below_set3 HBy.out (show w.heap.size ≤ N2 by have := HN.out; omega) (.int .i64 n) (.slice a1 l1.length c1) (.slice x6 m6 y6)
            have HFin := Lib.hid (And.intro hF (And.intro hO1 (And.intro hO2 hB)))
            have htw := takeWhile_at (fun z => ltW z (a, b)) c k (by rw [HL.out]; exact hk) HAll.out (fun h => by rw [HX.out]; exact HRr.out)
            have HTw := Lib.hid htw
            clear htw hF hO1 hO2 hB hne1 hne2 hne3
            obtain ⟨k1, k2, k3⟩ := HX37.out.cells
            obtain ⟨g1, g2, g3⟩ := HX27.out.cells
            obtain ⟨f1, f2, f3⟩ := HX27.out.thaw
            go_wp2
            obtain ⟨hF, hO1, hO2, hB⟩ := HFin.out
            obtain ⟨rfl, rfl⟩ := HP.out
            refine bodyPost_ret (retF2 rfl rfl hF) rfl ?_
            refine ⟨_, _, rfl, hO1, ?_, hB⟩
            simp only [HTw.out.1, HTw.out.2]
            rw [List.append_assoc] at hO2
            exact hO2
        · obtain rfl : k = L := by omega
          go_upto_region 8 with fail
          go_quiet (fail)
          have HBd := Lib.hid (HW.out.drewN' nq)
          clear e1 e2 e3
          generalize wr.drewN nq = W9 at HBd ⊢
          rcases ac with _ | A
          · obtain ⟨hc0, hk00, hcc0⟩ := Sl.empty_of_nil (HSc2.out.keep HBd.out)
            subst hc0
            subst hk00
            subst hcc0
            have HSa := Lib.hid (Sl.nil (enc := wc) (k := 2) W9)
            have HO := Lib.hid (Own.nil (enc := wc) (k := 2) W9 40 W9.heap.size)
            have HZ1 := Lib.hid (HX12.out.keep HBd.out); have HZ2 := Lib.hid (HX22.out.keep HBd.out); have HZ3 := Lib.hid (HX32.out.keep HBd.out)
            have HZ8 := Lib.hid ((HBd.out.block _ (Array.getElem?_eq_some_iff.1 HX82.out).1).trans HX82.out)
            have HOl := Lib.hid (HO12.out.below HBd.out); have HBz := Lib.hid (HB2.out.trans (HBd.out.mono HB2.out.size)); have HBWz := Lib.hid (HBW2.out.trans (HBd.out.mono HBW2.out.size))
            have hlt2 : ([] : List Wy).length = 0 := rfl
            have HLt := Lib.hid hlt2
            clear hlt2
            obtain ⟨e1, e2, e3⟩ := HZ1.out.cells
            go_upto_region 11 with (at_builtin; refine appSl wc_len wc_one (by decide) rfl _ _ 23 rfl W9.heap.size 40 _ (by rfl) 16 Tryz.underlying23 infoWay _ [] rfl HO.out _ ([]) rfl HSa.out (by have := HL2.out; unfold maxLen; simp <;> omega) (by have := HL2.out; have := HL.out; simp <;> omega) (Nat.le_refl _) ?_; intro v4 w4 ho hk4; rw [List.nil_append] at ho; obtain ⟨x4, y4, hv4⟩ := ho.slice; obtain rfl : v4 = .slice x4 0 y4 := hv4; have HO4 := Lib.hid ho; have HK := Lib.hid hk4.toBelow; clear ho hk4 e1 e2 e3)
            obtain ⟨y1, y2⟩ := wcells_at (x := (a, b)) (range_of_cells ((HK.out.block _ (Array.getElem?_eq_some_iff.1 HZ8.out).1).trans HZ8.out))
            simp only [Nat.zero_add] at y1 y2
            have hbn := below_new w4 (.cells (wc (a, b)).toArray 40)
            have HSn := Lib.hid (sl_new wc_len w4 (a, b) 40 _ rfl)
            have HOa := Lib.hid (HO4.out.below hbn)
            have HBn := Lib.hid (HK.out.trans (hbn.mono HK.out.size))
            clear hbn
            go_upto_region 12 with (at_builtin; refine appSl wc_len wc_one (by decide) rfl _ _ 23 rfl W9.heap.size 40 _ (by rfl) 16 Tryz.underlying23 infoWay _ ([]) rfl HOa.out _ [(a, b)] rfl HSn.out (by have := HL2.out; unfold maxLen; simp <;> omega) (by have := HL2.out; have := HL.out; simp <;> omega) HBn.out.size ?_; intro v5 w5 ho hk5; obtain ⟨x5, y5, hv5⟩ := ho.slice; obtain rfl : v5 = .slice x5 1 y5 := hv5; have HO5 := Lib.hid ho; have HK5 := Lib.hid (HBn.out.trans (hk5.toBelow.mono (Nat.le_refl _))); clear ho hk5 y1 y2)
            have hdr : ([] : List Wy) = [] := rfl
            have HDr := Lib.hid hdr
            clear hdr
            have HX15 := Lib.hid (HZ1.out.keep HK5.out); have HX35 := Lib.hid (HZ3.out.keep HK5.out)
            obtain ⟨e1, e2, e3⟩ := HX15.out.cells
            go_upto_region 13 with (at_builtin; refine appSl wc_len wc_one (by decide) rfl _ _ 23 rfl W9.heap.size 40 _ (by rfl) 16 Tryz.underlying23 infoWay _ ([] ++ [(a, b)]) rfl HO5.out _ [] rfl (sl_zero _ _ _ _ rfl (by intro h; rfl)) (by have := HL2.out; unfold maxLen; simp <;> omega) (by have := HL2.out; have := HL.out; simp <;> omega) HK5.out.size ?_; intro v6 w6 ho hk6; obtain ⟨x6, y6, hv6⟩ := ho.slice; obtain ⟨m6, hm6⟩ : ∃ m : Nat, m = 1 := ⟨_, rfl⟩; obtain rfl : v6 = .slice x6 m6 y6 := (by rw [hm6]; exact hv6); clear hm6 hv6; have HO6 := Lib.hid ho; have HK6 := Lib.hid (HK5.out.trans (hk6.toBelow.mono (Nat.le_refl _))); clear ho hk6 e1 e2 e3; have HX36 := Lib.hid (HZ3.out.keep HK6.out); obtain ⟨k1, k2, k3⟩ := HX36.out.cells; obtain ⟨t1, t2, t3⟩ := HX36.out.thaw)
            have hne3 : (Value.slice x6 m6 y6).ownBlock ≠ some N3 := fun e => by have := (HO6.out.blk N3 e).1; have := HZ3.out.lt; omega
            have hne2 : (Value.slice x6 m6 y6).ownBlock ≠ some N2 := fun e => by have := (HO6.out.blk N2 e).1; have := HZ2.out.lt; omega
            have hne1 : (Value.slice a1 l1.length c1).ownBlock ≠ some N3 := fun e => by have := (HBlk1.out N3 e).2; omega
            have hq23 : ¬ N2 = N3 := by have := HNN.out; omega
            have HX37 := Lib.hid (show FBox (w6.setCell ⟨N3, 2, none⟩ (.slice x6 m6 y6)) N3 n (.slice a1 l1.length c1) (.slice x6 m6 y6) from FBox.set2 HX36.out (.slice x6 m6 y6))
            have HX27 := Lib.hid (show FBox (w6.setCell ⟨N3, 2, none⟩ (.slice x6 m6 y6)) N2 0 (.slice none 0 0) (.slice none 0 0) from (heap_setCell_other _ _ _ _ hq23).trans (HZ2.out.keep HK6.out))
            have HO17 := Lib.hid ((HOl.out.below HK6.out).setOther hne1 2 (.slice x6 m6 y6)); have HO27 := Lib.hid (HO6.out.setOther hne3 2 (.slice x6 m6 y6))
            have HBy := Lib.hid ((HBz.out.trans (HK6.out.mono HBz.out.size)).setCell (p := ⟨N3, 2, none⟩) (show w.heap.size ≤ N3 by have := HNN.out; omega) (.slice x6 m6 y6))
            generalize (w6.setCell ⟨N3, 2, none⟩ (.slice x6 m6 y6)) = Wz at HX37 HX27 HO17 HO27 HBy ⊢
            clear k1 k2 k3 t1 t2 t3
            have hF := HX27.out.set n (.slice a1 l1.length c1) (.slice x6 m6 y6)
            have hO1 := (((HO17.out.mono HB.out.size).setOther HBa.out 0 (.int .i64 n)).setOther HBa.out 1 (.slice a1 l1.length c1)).setOther HBa.out 2 (.slice x6 m6 y6)
            have hO2 := (((HO27.out.setOther hne2 0 (.int .i64 n)).setOther hne2 1 (.slice a1 l1.length c1)).setOther hne2 2 (.slice x6 m6 y6)).mono HBz.out.size
            have hB := below_set3 HBy.out (show w.heap.size ≤ N2 by have := HN.out; omega) (.int .i64 n) (.slice a1 l1.length c1) (.slice x6 m6 y6)
            have HFin := Lib.hid (And.intro hF (And.intro hO1 (And.intro hO2 hB)))
            have htw := takeWhile_at (fun z => ltW z (a, b)) ([] : List Wy) 0 (Nat.le_refl _) HAll.out (fun h => by simp at h)
            have HTw := Lib.hid htw
            clear htw hF hO1 hO2 hB hne1 hne2 hne3
            obtain ⟨k1, k2, k3⟩ := HX37.out.cells
            obtain ⟨g1, g2, g3⟩ := HX27.out.cells
            obtain ⟨f1, f2, f3⟩ := HX27.out.thaw
            go_wp2
            all_goals
              obtain ⟨hF, hO1, hO2, hB⟩ := HFin.out
              obtain ⟨rfl, rfl⟩ := HP.out
              refine bodyPost_ret (retF2 rfl rfl hF) rfl ?_
              refine ⟨_, _, rfl, hO1, ?_, hB⟩
              simp only [HTw.out.1, HTw.out.2]
              rw [List.append_assoc] at hO2
              exact hO2
          have hS9 : Sl wc 2 W9 (.slice (some A) c.length cc) c := by rw [HL.out]; exact HSc2.out.keep HBd.out
          have HSa := Lib.hid (sl_take hS9 k (by rw [HL.out]; exact hk))
          have HS9 := Lib.hid hS9
          have HO := Lib.hid (Own.nil (enc := wc) (k := 2) W9 40 W9.heap.size)
          have HZ1 := Lib.hid (HX12.out.keep HBd.out); have HZ2 := Lib.hid (HX22.out.keep HBd.out); have HZ3 := Lib.hid (HX32.out.keep HBd.out)
          have HZ8 := Lib.hid ((HBd.out.block _ (Array.getElem?_eq_some_iff.1 HX82.out).1).trans HX82.out)
          have HOl := Lib.hid (HO12.out.below HBd.out); have HBz := Lib.hid (HB2.out.trans (HBd.out.mono HB2.out.size)); have HBWz := Lib.hid (HBW2.out.trans (HBd.out.mono HBW2.out.size))
          have hlt2 : (c.take k).length = k := by rw [List.length_take, HL.out]; omega
          have HLt := Lib.hid hlt2
          have hkc : (k : Int) ≤ cc := by have := HCc.out; have := HL.out; omega
          clear hS9 hlt2
          obtain ⟨e1, e2, e3⟩ := HZ1.out.cells
          go_upto_region 11 with (at_builtin; refine appSl wc_len wc_one (by decide) rfl _ _ 23 rfl W9.heap.size 40 _ (by rfl) 16 Tryz.underlying23 infoWay _ [] rfl HO.out _ (c.take k) rfl HSa.out (by have := HL2.out; rw [HLt.out]; unfold maxLen; simp; omega) (by have := HL2.out; have := HL.out; rw [HLt.out]; simp; omega) (Nat.le_refl _) ?_; intro v4 w4 ho hk4; rw [List.nil_append] at ho; obtain ⟨x4, y4, hv4⟩ := ho.slice; rw [HLt.out] at hv4; subst hv4; have HO4 := Lib.hid ho; have HK := Lib.hid hk4.toBelow; clear ho hk4 e1 e2 e3)
          obtain ⟨y1, y2⟩ := wcells_at (x := (a, b)) (range_of_cells ((HK.out.block _ (Array.getElem?_eq_some_iff.1 HZ8.out).1).trans HZ8.out))
          simp only [Nat.zero_add] at y1 y2
          have hbn := below_new w4 (.cells (wc (a, b)).toArray 40)
          have HSn := Lib.hid (sl_new wc_len w4 (a, b) 40 _ rfl)
          have HOa := Lib.hid (HO4.out.below hbn)
          have HBn := Lib.hid (HK.out.trans (hbn.mono HK.out.size))
          clear hbn
          go_upto_region 12 with (at_builtin; refine appSl wc_len wc_one (by decide) rfl _ _ 23 rfl W9.heap.size 40 _ (by rfl) 16 Tryz.underlying23 infoWay _ (c.take k) rfl HOa.out _ [(a, b)] rfl HSn.out (by have := HL2.out; rw [HLt.out]; unfold maxLen; simp; omega) (by have := HL2.out; have := HL.out; rw [HLt.out]; simp; omega) HBn.out.size ?_; intro v5 w5 ho hk5; obtain ⟨x5, y5, hv5⟩ := ho.slice; rw [List.length_append, List.length_cons, List.length_nil, Nat.zero_add, HLt.out] at hv5; subst hv5; have HO5 := Lib.hid ho; have HK5 := Lib.hid (HBn.out.trans (hk5.toBelow.mono (Nat.le_refl _))); clear ho hk5 y1 y2)
          have hdr : c.drop k = [] := List.drop_of_length_le (by rw [HL.out]; exact Nat.le_refl _)
          have HDr := Lib.hid hdr
          clear hdr
          have HLd : Hid ((c.drop k).length = c.length - k) := Lib.hid (List.length_drop ..)
          have HX15 := Lib.hid (HZ1.out.keep HK5.out); have HX35 := Lib.hid (HZ3.out.keep HK5.out)
          have hk1 : (k : Int) ≤ c.length := by have := HL.out; omega
          obtain ⟨e1, e2, e3⟩ := HX15.out.cells
          go_upto_region 13 with (at_builtin; refine appSl wc_len wc_one (by decide) rfl _ _ 23 rfl W9.heap.size 40 _ (by rfl) 16 Tryz.underlying23 infoWay _ (c.take k ++ [(a, b)]) rfl HO5.out _ [] rfl (sl_zero _ _ _ _ (by first | rfl | simp) (by intro h; first | (split at h <;> cases h) | cases h)) (by have := HL2.out; rw [List.length_append, HLt.out]; unfold maxLen; simp; omega) (by have := HL2.out; have := HL.out; rw [List.length_append, HLt.out]; simp; omega) HK5.out.size ?_; intro v6 w6 ho hk6; obtain ⟨x6, y6, hv6⟩ := ho.slice; obtain ⟨m6, hm6⟩ : ∃ m, (c.take k ++ [(a, b)] ++ []).length = m := ⟨_, rfl⟩; rw [hm6] at hv6; subst hv6; clear hm6; have HO6 := Lib.hid ho; have HK6 := Lib.hid (HK5.out.trans (hk6.toBelow.mono (Nat.le_refl _))); clear ho hk6 e1 e2 e3; have HX36 := Lib.hid (HZ3.out.keep HK6.out); obtain ⟨k1, k2, k3⟩ := HX36.out.cells; obtain ⟨t1, t2, t3⟩ := HX36.out.thaw)
          have hne3 : (Value.slice x6 m6 y6).ownBlock ≠ some N3 := fun e => by have := (HO6.out.blk N3 e).1; have := HZ3.out.lt; omega
          have hne2 : (Value.slice x6 m6 y6).ownBlock ≠ some N2 := fun e => by have := (HO6.out.blk N2 e).1; have := HZ2.out.lt; omega
          have hne1 : (Value.slice a1 l1.length c1).ownBlock ≠ some N3 := fun e => by have := (HBlk1.out N3 e).2; omega
          have hq23 : ¬ N2 = N3 := by have := HNN.out; omega
          have HX37 := Lib.hid (show FBox (w6.setCell ⟨N3, 2, none⟩ (.slice x6 m6 y6)) N3 n (.slice a1 l1.length c1) (.slice x6 m6 y6) from FBox.set2 HX36.out (.slice x6 m6 y6))
          have HX27 := Lib.hid (show FBox (w6.setCell ⟨N3, 2, none⟩ (.slice x6 m6 y6)) N2 0 (.slice none 0 0) (.slice none 0 0) from (heap_setCell_other _ _ _ _ hq23).trans (HZ2.out.keep HK6.out))
          have HO17 := Lib.hid ((HOl.out.below HK6.out).setOther hne1 2 (.slice x6 m6 y6)); have HO27 := Lib.hid (HO6.out.setOther hne3 2 (.slice x6 m6 y6))
          have HBy := Lib.hid ((HBz.out.trans (HK6.out.mono HBz.out.size)).setCell (p := ⟨N3, 2, none⟩) (show w.heap.size ≤ N3 by have := HNN.out; omega) (.slice x6 m6 y6))
          generalize (w6.setCell ⟨N3, 2, none⟩ (.slice x6 m6 y6)) = Wz at HX37 HX27 HO17 HO27 HBy ⊢
          clear k1 k2 k3 t1 t2 t3
          have hF := HX27.out.set n (.slice a1 l1.length c1) (.slice x6 m6 y6)
          have hO1 := (((HO17.out.mono HB.out.size).setOther HBa.out 0 (.int .i64 n)).setOther HBa.out 1 (.slice a1 l1.length c1)).setOther HBa.out 2 (.slice x6 m6 y6)
          have hO2 := (((HO27.out.setOther hne2 0 (.int .i64 n)).setOther hne2 1 (.slice a1 l1.length c1)).setOther hne2 2 (.slice x6 m6 y6)).mono HBz.out.size
          have hB := below_set3 HBy.out (show w.heap.size ≤ N2 by have := HN.out; omega) (.int .i64 n) (.slice a1 l1.length c1) (.slice x6 m6 y6)
          have HFin := Lib.hid (And.intro hF (And.intro hO1 (And.intro hO2 hB)))
          have htw := takeWhile_at (fun z => ltW z (a, b)) c k (by rw [HL.out]; exact hk) HAll.out (fun h => by have := HL.out; omega)
          have HTw := Lib.hid htw
          clear htw hF hO1 hO2 hB hne1 hne2 hne3
          obtain ⟨k1, k2, k3⟩ := HX37.out.cells
          obtain ⟨g1, g2, g3⟩ := HX27.out.cells
          obtain ⟨f1, f2, f3⟩ := HX27.out.thaw
          go_wp2
          all_goals
            obtain ⟨hF, hO1, hO2, hB⟩ := HFin.out
            obtain ⟨rfl, rfl⟩ := HP.out
            refine bodyPost_ret (retF2 rfl rfl hF) rfl ?_
            refine ⟨_, _, rfl, hO1, ?_, hB⟩
            simp only [HTw.out.1, HTw.out.2]
            rw [List.append_assoc] at hO2
            rw [HDr.out]
            exact hO2
    · simp only at hi hci
      have HP : Hid (r = ⟨n, l1, c⟩ ∧ m = (l.length : Int) - l1.length) := Lib.hid (by
        have hin : (a, b) ∈ c := by rw [← hci]; exact List.getElem_mem hi
        have q := HR.out; unfold rcutE at q; rw [if_neg HNe.out] at q; simp only [if_pos hin, HLs.out] at q; cases q; exact ⟨rfl, rfl⟩)
      have hi0 : (0 : Int) ≤ (i : Int) := by omega
      obtain ⟨k1, k2, k3⟩ := HX32.out.cells
      obtain ⟨g1, g2, g3⟩ := HX22.out.cells
      obtain ⟨f1, f2, f3⟩ := HX22.out.thaw
      clear hi hci
      go_wp2
      have hF := HX22.out.set n (.slice a1 l1.length c1) (.slice a2 c.length c2)
      have hO1 := (((HO12.out.mono HB.out.size).setOther HBa.out 0 (.int .i64 n)).setOther HBa.out 1 (.slice a1 l1.length c1)).setOther HBa.out 2 (.slice a2 c.length c2)
      have hO2 := (((HO22.out.mono HB.out.size).setOther HBb.out 0 (.int .i64 n)).setOther HBb.out 1 (.slice a1 l1.length c1)).setOther HBb.out 2 (.slice a2 c.length c2)
      have hB := below_set3 HB2.out (show w.heap.size ≤ N2 by have := HN.out; omega) (.int .i64 n) (.slice a1 l1.length c1) (.slice a2 c.length c2)
      obtain ⟨rfl, rfl⟩ := HP.out
      refine bodyPost_ret (retF2 rfl rfl hF) rfl ?_
      exact ⟨_, _, rfl, hO1, hO2, hB⟩

end Go.Proofs.YtalnmbfmfeaohaaGreat.flight
