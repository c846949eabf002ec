/- The document's Put. -/
import Derived.Test.YtalnmbfmfeaohaaGreatRows
import Derived.Test.YtalnmbfmfeaohaaGreatFlightRPlace
namespace Go.Proofs.YtalnmbfmfeaohaaGreat.flight
open Go.RowKit
open Go.Proofs.YtalnmbfmfeaohaaGreat.kit Go.Proofs.YtalnmbfmfeaohaaGreat.own
set_option linter.unusedVariables false

theorem FBox.set0 {W : World} {N : Nat} {n : Int} {vl vc : Value} (h : FBox W N n vl vc) (n' : Int) : FBox (W.setCell ⟨N, 0, none⟩ (.int .i64 n')) N n' vl vc := heap_setCell_same W N 0 _ _ _ h

theorem Own.keptOther {α : Type} {enc : α → List Value} {k e e' B B' : Nat} {W W' : World} {v : Value} {xs : List α} (h : Own enc k e W B v xs) (hk : Kept B' e' W W') (hne : e ≠ e') : Own enc k e W' B v xs := by
  obtain ⟨h1, h2⟩ := id h
  refine ⟨h1, ?_⟩
  rcases h2 with ⟨rfl, h0⟩ | ⟨g, cap, cur, rfl, hB, hg, hr⟩
  · exact .inl ⟨rfl, h0⟩
  · refine .inr ⟨g, cap, cur, rfl, hB, (hk.other g (Array.getElem?_eq_some_iff.1 hg).1 (fun c f e2 => ?_)).trans hg, hr⟩
    rw [hg] at e2
    injection e2 with e3
    injection e3 with _ e4
    exact hne e4

theorem Own.neBox {α : Type} {enc : α → List Value} {k e B : Nat} {W : World} {v : Value} {xs : List α} (h : Own enc k e W B v xs) {N t : Nat} {cs : Array Value} {fr : Nat × Nat} (hx : W.heap[N]? = some (.cells cs t fr)) (hne : e ≠ t) : v.ownBlock ≠ some N := by
  rcases h.2 with ⟨rfl, h0⟩ | ⟨g, cap, cur, rfl, hB, hg, hr⟩
  · intro e2; cases e2
  · intro e2
    have e3 : g = N := by simpa [Value.ownBlock] using e2
    subst e3
    rw [hg] at hx
    injection hx with e4
    injection e4 with _ e5
    exact hne e5

set_option maxHeartbeats 16000000 in
set_option maxRecDepth 100000 in
theorem rPut_any (v : Value) (f : Flt) (a b : Int) (t : ByteArray) (w : World) (h : FlR w v f) (hl1 : (f.list.length + 1) * 40 ≤ 140737488355328) (hl2 : f.cut.length * 16 ≤ 140737488355328) (hn : I64 f.next) :
    Calls Tryz.prog 17 #[v, .int .i64 a, .int .i64 b, .string t] w (ThreeS w (putE f a b t)) := by
  obtain ⟨vl, vc, rfl, hl, hc⟩ := id h
  have hb1 := below_new w (.cells #[.int .i64 f.next, vl, vc] 25)
  have hb2 := below_new (w.alloc (.cells #[.int .i64 f.next, vl, vc] 25)) (.cells #[.int .i64 0, .slice none 0 0, .slice none 0 0] 25)
  have hx1 := (fbox_new w f.next vl vc).keep hb2
  have hx2 := fbox_new (w.alloc (.cells #[.int .i64 f.next, vl, vc] 25)) 0 (.slice none 0 0) (.slice none 0 0)
  rw [World.size_alloc] at hx2
  have hb := hb1.trans (hb2.mono (by simp))
  have HFl := Lib.hid (h.keep hb)
  have HX1 := Lib.hid hx1; have HX2 := Lib.hid hx2; have HB := Lib.hid hb; have HL1 := Lib.hid hl1; have HL2 := Lib.hid hl2; have HNx := Lib.hid hn
  obtain ⟨al, cl, hvl⟩ := hl.slice
  subst hvl
  obtain ⟨n, l, c⟩ := f
  simp only at HX1 HX2 HB HFl HL1 HL2 HNx ⊢
  clear hl hc hb1 hb2 hx1 hx2 hb h hl1 hl2 hn
  have HE : Hid (refE ⟨n, l, c⟩ (a, b) = if (a, b) ∈ c then 40 else if 65536 ≤ l.length ∨ 4611686018427387904 ≤ n then 21 else 0) := Lib.hid rfl
  go_enter Tryz.func17, Tryz.ntmps17
  go_upto_region 1 with fail
  generalize (w.alloc (.cells #[.int .i64 n, _, _] 25)).alloc _ = W at HFl HX1 HX2 HB ⊢
  generalize hN2 : w.heap.size + 1 = N2 at HX2 ⊢
  obtain ⟨N, hN⟩ : ∃ N, w.heap.size = N := ⟨_, rfl⟩
  rw [hN] at HX1 ⊢
  have HN := Lib.hid (And.intro hN hN2)
  clear hN hN2
  obtain ⟨e1, e2, e3⟩ := HX1.out.cells
  go_wp2_with fail
  refine (rCopy_any _ ⟨n, l, c⟩ W HFl.out (by have := HL1.out; simp only; omega) HL2.out).mono ?_
  rintro e w1 ⟨vl1, vc1, rfl, ho1, ho2, hb1⟩
  simp only at ho1 ho2 ⊢
  obtain ⟨a1, c1, rfl⟩ := ho1.slice
  obtain ⟨a2, c2, rfl⟩ := ho2.slice
  have hb3 := below_new w1 (.cells #[.int .i64 n, .slice a1 l.length c1, .slice a2 c.length c2] 25)
  have hbb := hb1.trans (hb3.mono hb1.size)
  have HX3 := Lib.hid (fbox_new w1 n (.slice a1 l.length c1) (.slice a2 c.length c2))
  have HX1' := Lib.hid (HX1.out.keep hbb); have HX2' := Lib.hid (HX2.out.keep hbb); have HFl' := Lib.hid (HFl.out.keep hbb)
  have HO1 := Lib.hid (ho1.below hb3); have HO2 := Lib.hid (ho2.below hb3)
  have HBlk1 := Lib.hid ho1.blk; have HBlk2 := Lib.hid ho2.blk
  have HB3 := Lib.hid (HB.out.trans (hbb.mono HB.out.size))
  have HSz := Lib.hid hb1.size
  clear ho1 ho2 hb1 hb3 hbb e1 e2 e3
  go_upto_region 2 with fail
  generalize (w1.alloc (.cells #[.int .i64 n, .slice a1 l.length c1, .slice a2 c.length c2] 25)) = W1 at HX3 HX1' HX2' HFl' HO1 HO2 HB3 ⊢
  generalize w1.heap.size = N3 at HX3 HBlk1 HBlk2 HSz ⊢
  obtain ⟨e1, e2, e3⟩ := HX1'.out.cells
  go_wp2_with fail
  refine (place_any _ ⟨n, l, c⟩ (a, b) W1 HFl'.out).mono ?_
  have HQ := Lib.hid (show N2 < W.heap.size ∧ N < N2 from ⟨HX2.out.lt, by have := HN.out; omega⟩)
  rintro e w2 ⟨hb2, hcase⟩
  have HX32 := Lib.hid (HX3.out.keep hb2); have HX22 := Lib.hid (HX2'.out.keep hb2); have HX12 := Lib.hid (HX1'.out.keep hb2)
  have HO12 := Lib.hid (HO1.out.below hb2); have HO22 := Lib.hid (HO2.out.below hb2)
  have HB2 := Lib.hid (HB3.out.trans (hb2.mono HB3.out.size))
  have HS2 := Lib.hid (show W.heap.size ≤ w2.heap.size from by have := HX32.out.lt; have := HSz.out; omega)
  have HBa := Lib.hid (show (Value.slice a1 l.length c1).ownBlock ≠ some N2 ∧ (Value.slice a1 l.length c1).ownBlock ≠ some N3 from ⟨fun e => by have := HBlk1.out N2 e; have := HQ.out; omega, fun e => by have := HBlk1.out N3 e; omega⟩)
  have HBb := Lib.hid (show (Value.slice a2 c.length c2).ownBlock ≠ some N2 ∧ (Value.slice a2 c.length c2).ownBlock ≠ some N3 from ⟨fun e => by have := HBlk2.out N2 e; have := HQ.out; omega, fun e => by have := HBlk2.out N3 e; omega⟩)
  clear e1 e2 e3 hb2
  have hq23 : ¬ N2 = N3 := by have := HQ.out; have := HSz.out; omega
  have hq32 : ¬ N3 = N2 := fun e => hq23 e.symm
  -- an error: the copy is handed back
  have hErr : ∀ (W8 : World), W8 = w2 → FBox (((W8.setCell ⟨N2, 0, none⟩ (.int .i64 n)).setCell ⟨N2, 1, none⟩ (.slice a1 l.length c1)).setCell ⟨N2, 2, none⟩ (.slice a2 c.length c2)) N2 n (.slice a1 l.length c1) (.slice a2 c.length c2) ∧
      Own fc 4 38 (((W8.setCell ⟨N2, 0, none⟩ (.int .i64 n)).setCell ⟨N2, 1, none⟩ (.slice a1 l.length c1)).setCell ⟨N2, 2, none⟩ (.slice a2 c.length c2)) w.heap.size (.slice a1 l.length c1) l ∧
      Own wc 2 40 (((W8.setCell ⟨N2, 0, none⟩ (.int .i64 n)).setCell ⟨N2, 1, none⟩ (.slice a1 l.length c1)).setCell ⟨N2, 2, none⟩ (.slice a2 c.length c2)) w.heap.size (.slice a2 c.length c2) c ∧
      Below w.heap.size w (((W8.setCell ⟨N2, 0, none⟩ (.int .i64 n)).setCell ⟨N2, 1, none⟩ (.slice a1 l.length c1)).setCell ⟨N2, 2, none⟩ (.slice a2 c.length c2)) := by
    rintro W8 rfl
    exact ⟨HX22.out.set _ _ _, ((((HO12.out.mono HB.out.size).setOther HBa.out.1 _ _).setOther HBa.out.1 _ _).setOther HBa.out.1 _ _), ((((HO22.out.mono HB.out.size).setOther HBb.out.1 _ _).setOther HBb.out.1 _ _).setOther HBb.out.1 _ _), below_set3 HB2.out (by have := HN.out; omega) _ _ _⟩
  have HErr := Lib.hid (hErr w2 rfl)
  clear hErr
  rcases hcase with ⟨hin, rfl⟩ | ⟨i, hi, hci, rfl⟩
  · simp only at hin
    by_cases h1 : 65536 ≤ l.length
    · have h1' : (65536 : Int) ≤ l.length := by omega
      have HP : Hid (putE ⟨n, l, c⟩ a b t = (⟨n, l, c⟩, 0, 21)) := Lib.hid (by
        have e : refE ⟨n, l, c⟩ (a, b) = 21 := by rw [HE.out, if_neg hin, if_pos (Or.inl h1)]
        unfold putE; rw [e]; rfl)
      obtain ⟨e1, e2, e3⟩ := HX12.out.cells
      obtain ⟨k1, k2, k3⟩ := HX32.out.cells
      obtain ⟨g1, g2, g3⟩ := HX22.out.cells
      obtain ⟨f1, f2, f3⟩ := HX22.out.thaw
      clear hin
      go_wp2
      obtain ⟨hF, hO1, hO2, hB⟩ := HErr.out
      refine bodyPost_ret (retF3 rfl rfl hF) rfl ?_
      unfold ThreeS
      rw [HP.out]
      exact ⟨_, _, rfl, hO1, hO2, hB⟩
    · have h1' : True → decide ((65536 : Int) ≤ l.length) = false := fun _ => decide_eq_false (by omega)
      obtain ⟨x, hx⟩ : ∃ x, decide (4611686018427387904 ≤ n) = x := ⟨_, rfl⟩
      have HXd := Lib.hid hx
      have h2 : True → decide (4611686018427387904 ≤ n) = x := fun _ => hx
      clear hx
      cases x with
      | true =>
        have HP : Hid (putE ⟨n, l, c⟩ a b t = (⟨n, l, c⟩, 0, 21)) := Lib.hid (by
          have e : refE ⟨n, l, c⟩ (a, b) = 21 := by rw [HE.out, if_neg hin, if_pos (Or.inr (of_decide_eq_true HXd.out))]
          unfold putE; rw [e]; rfl)
        obtain ⟨e1, e2, e3⟩ := HX12.out.cells
        obtain ⟨k1, k2, k3⟩ := HX32.out.cells
        obtain ⟨g1, g2, g3⟩ := HX22.out.cells
        obtain ⟨f1, f2, f3⟩ := HX22.out.thaw
        clear hin h1
        go_upto_region 4 with fail
        generalize (4611686018427387904 : Int) = K at h2 ⊢
        generalize (65536 : Int) = K2 at h1' ⊢
        go_wp2
        obtain ⟨hF, hO1, hO2, hB⟩ := HErr.out
        refine bodyPost_ret (retF3 rfl rfl hF) rfl ?_
        unfold ThreeS
        rw [HP.out]
        exact ⟨_, _, rfl, hO1, hO2, hB⟩
      | false =>
        have HP : Hid (putE ⟨n, l, c⟩ a b t = (⟨n + 1, l ++ [⟨n + 1, a, b, t⟩], c⟩, n + 1, 0)) := Lib.hid (by
          have e : refE ⟨n, l, c⟩ (a, b) = 0 := by rw [HE.out, if_neg hin, if_neg (fun hh => hh.elim h1 (of_decide_eq_false HXd.out))]
          unfold putE; rw [if_pos e])
        have hwn : wrap64 (n + 1) = n + 1 := by
          have h3 := of_decide_eq_false HXd.out
          have h4 := HNx.out
          unfold I64 at h4
          exact IntWalk.wrap64_in _ ⟨by omega, by omega⟩
        have hwn' : True → wrap64 (n + 1) = n + 1 := fun _ => hwn
        obtain ⟨e1, e2, e3⟩ := HX12.out.cells
        clear hin h1 hwn
        go_upto_region 4 with fail
        generalize (4611686018427387904 : Int) = K at h2 HXd ⊢
        generalize (65536 : Int) = K2 at h1' ⊢
        go_upto_region 6 with fail
        clear h1' h2 HXd e1 e2 e3
        obtain ⟨k1, k2, k3⟩ := HX32.out.cells
        obtain ⟨t1, t2, t3⟩ := HX32.out.thaw
        go_upto_region 7 with fail
        clear k1 k2 k3 t1 t2 t3 hwn'
        have HX36 := Lib.hid (HX32.out.set0 (n + 1))
        have HX26 := Lib.hid (show FBox (w2.setCell ⟨N3, 0, none⟩ (.int .i64 (n + 1))) N2 0 (.slice none 0 0) (.slice none 0 0) from (heap_setCell_other _ _ _ _ hq23).trans HX22.out)
        have HO16 := Lib.hid (HO12.out.setOther HBa.out.2 0 (.int .i64 (n + 1))); have HO26 := Lib.hid (HO22.out.setOther HBb.out.2 0 (.int .i64 (n + 1)))
        have HB6 := Lib.hid (HB2.out.setCell (p := ⟨N3, 0, none⟩) (show w.heap.size ≤ N3 by have := HB.out.size; have := HSz.out; omega) (.int .i64 (n + 1)))
        have HS6 : Hid (W.heap.size ≤ (w2.setCell ⟨N3, 0, none⟩ (.int .i64 (n + 1))).heap.size) := Lib.hid (by rw [World.size_setCell]; exact HS2.out)
        generalize (w2.setCell ⟨N3, 0, none⟩ (.int .i64 (n + 1))) = W6 at HX36 HX26 HO16 HO26 HB6 HS6 ⊢
        obtain ⟨k1, k2, k3⟩ := HX36.out.cells
        obtain ⟨t1, t2, t3⟩ := HX36.out.thaw
        have hbn := below_new W6 (.cells (fc ⟨n + 1, a, b, t⟩).toArray 38)
        have HSn := Lib.hid (sl_new fc_len W6 ⟨n + 1, a, b, t⟩ 38 _ rfl)
        have HOa := Lib.hid (HO16.out.below hbn); have HOb := Lib.hid (HO26.out.below hbn)
        have HXa := Lib.hid (HX36.out.keep hbn); have HXb := Lib.hid (HX26.out.keep hbn)
        have HBn := Lib.hid (HB6.out.trans (hbn.mono HB6.out.size))
        have HSn2 := Lib.hid (Nat.le_trans HS6.out hbn.size)
        have HNc : Hid (∀ cc ff, (W6.alloc (.cells (fc ⟨n + 1, a, b, t⟩).toArray 38)).heap[N3]? ≠ some (.cells cc 38 ff)) := Lib.hid (fun cc ff e => by have h := HXa.out; unfold FBox at h; rw [h] at e; simp at e)
        have HTy := Lib.hid (show (40 : Nat) ≠ 38 ∧ (38 : Nat) ≠ 25 by decide)
        clear hbn
        go_upto_region 8 with (at_builtin; refine appSl fc_len fc_one (by decide) rfl _ _ 22 rfl W.heap.size 38 _ (by rfl) 40 Tryz.underlying22 infoFrm _ l rfl HOa.out _ [⟨n + 1, a, b, t⟩] rfl HSn.out (by have := HL1.out; unfold maxLen; simp; omega) (by have := HL1.out; simpa using this) HSn2.out ?_; intro v7 w7 ho7 hk7; obtain ⟨x7, y7, hv7⟩ := ho7.slice; rw [List.length_append, List.length_cons, List.length_nil, Nat.zero_add] at hv7; subst hv7; have HX37 := Lib.hid (show FBox w7 N3 (n + 1) (.slice a1 l.length c1) (.slice a2 c.length c2) from (hk7.other N3 HXa.out.lt HNc.out).trans HXa.out); have HX27 := Lib.hid (show FBox w7 N2 0 (.slice none 0 0) (.slice none 0 0) from (hk7.below N2 HQ.out.1).trans HXb.out); have HO17 := Lib.hid ho7; have HO27 := Lib.hid (HOb.out.keptOther hk7 HTy.out.1); have HB7 := Lib.hid (HBn.out.trans (hk7.toBelow.mono (show w.heap.size ≤ W.heap.size from HB.out.size))); have HBk7 := Lib.hid (show (Value.slice x7 (l.length + 1) y7).ownBlock ≠ some N3 ∧ (Value.slice x7 (l.length + 1) y7).ownBlock ≠ some N2 from ⟨ho7.neBox HX37.out HTy.out.2, ho7.neBox HX27.out HTy.out.2⟩); clear ho7 hk7 k1 k2 k3 t1 t2 t3; obtain ⟨k1, k2, k3⟩ := HX37.out.cells; obtain ⟨t1, t2, t3⟩ := HX37.out.thaw)
        have HX38 := Lib.hid (HX37.out.set1 (.slice x7 (l.length + 1) y7))
        have HX28 := Lib.hid (show FBox (w7.setCell ⟨N3, 1, none⟩ (.slice x7 (l.length + 1) y7)) N2 0 (.slice none 0 0) (.slice none 0 0) from (heap_setCell_other _ _ _ _ hq23).trans HX27.out)
        have HO18 := Lib.hid (HO17.out.setOther HBk7.out.1 1 (.slice x7 (l.length + 1) y7)); have HO28 := Lib.hid (HO27.out.setOther HBb.out.2 1 (.slice x7 (l.length + 1) y7))
        have HB8 := Lib.hid (HB7.out.setCell (p := ⟨N3, 1, none⟩) (show w.heap.size ≤ N3 by have := HB.out.size; have := HSz.out; omega) (.slice x7 (l.length + 1) y7))
        clear k1 k2 k3 t1 t2 t3
        generalize (w7.setCell ⟨N3, 1, none⟩ (.slice x7 (l.length + 1) y7)) = W8 at HX38 HX28 HO18 HO28 HB8 ⊢
        obtain ⟨k1, k2, k3⟩ := HX38.out.cells
        obtain ⟨g1, g2, g3⟩ := HX28.out.cells
        obtain ⟨f1, f2, f3⟩ := HX28.out.thaw
        have hOL : Own fc 4 38 W8 W.heap.size (.slice x7 (l.length + 1) y7) (l ++ [⟨n + 1, a, b, t⟩]) := HO18.out
        have HF := Lib.hid (HX28.out.set (n + 1) (.slice x7 (l.length + 1) y7) (.slice a2 c.length c2))
        have HOf := Lib.hid ((((hOL.mono HB.out.size).setOther HBk7.out.2 0 (.int .i64 (n + 1))).setOther HBk7.out.2 1 (.slice x7 (l.length + 1) y7)).setOther HBk7.out.2 2 (.slice a2 c.length c2))
        have HPf := Lib.hid ((((HO28.out.mono HB.out.size).setOther HBb.out.1 0 (.int .i64 (n + 1))).setOther HBb.out.1 1 (.slice x7 (l.length + 1) y7)).setOther HBb.out.1 2 (.slice a2 c.length c2))
        have HBf := Lib.hid (below_set3 HB8.out (show w.heap.size ≤ N2 by have := HN.out; omega) (.int .i64 (n + 1)) (.slice x7 (l.length + 1) y7) (.slice a2 c.length c2))
        clear hOL
        go_region_with fail
        all_goals
          generalize (((W8.setCell ⟨N2, 0, none⟩ (.int .i64 (n + 1))).setCell ⟨N2, 1, none⟩ (.slice x7 (l.length + 1) y7)).setCell ⟨N2, 2, none⟩ (.slice a2 c.length c2)) = W9 at HF HOf HPf HBf ⊢
          have hd9 : Below W9.heap.size W9 W9.drew := ⟨rfl, rfl, rfl, Nat.le_refl _, fun _ _ => rfl⟩
          have HF9 := Lib.hid (HF.out.keep hd9); have HO9 := Lib.hid (HOf.out.below hd9); have HP9 := Lib.hid (HPf.out.below hd9); have HB9 := Lib.hid (below_drew HBf.out)
          clear k1 k2 k3 g1 g2 g3 f1 f2 f3 hd9
          generalize W9.drew = W10 at HF9 HO9 HP9 HB9 ⊢
          go_wp2
          refine bodyPost_ret (retF3 rfl rfl HF9.out) rfl ?_
          unfold ThreeS
          rw [HP.out]
          exact ⟨_, _, rfl, HO9.out, HP9.out, HB9.out⟩
  · have HP : Hid (putE ⟨n, l, c⟩ a b t = (⟨n, l, c⟩, 0, 40)) := Lib.hid (by
      have hin : (a, b) ∈ c := by rw [← hci]; exact List.getElem_mem hi
      have e : refE ⟨n, l, c⟩ (a, b) = 40 := by rw [HE.out, if_pos hin]
      unfold putE; rw [e]; rfl)
    have hi0 : (0 : Int) ≤ (i : Int) := by omega
    obtain ⟨k1, k2, k3⟩ := HX32.out.cells
    obtain ⟨g1, g2, g3⟩ := HX22.out.cells
    obtain ⟨f1, f2, f3⟩ := HX22.out.thaw
    clear hci hi
    go_wp2
    obtain ⟨hF, hO1, hO2, hB⟩ := HErr.out
    refine bodyPost_ret (retF3 rfl rfl hF) rfl ?_
    unfold ThreeS
    rw [HP.out]
    exact ⟨_, _, rfl, hO1, hO2, hB⟩

end Go.Proofs.YtalnmbfmfeaohaaGreat.flight
