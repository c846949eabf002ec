/- Ways cut: sever, Cut. -/
import Derived.Test.YtalnmbfmfeaohaaGreatRows
import Derived.Test.YtalnmbfmfeaohaaGreatFlightCut
import Derived.Test.YtalnmbfmfeaohaaGreatFlightCompW
namespace Go.Proofs.YtalnmbfmfeaohaaGreat.flight
open Go.RowKit
open Go.Proofs.YtalnmbfmfeaohaaGreat.kit Go.Proofs.YtalnmbfmfeaohaaGreat.own
set_option linter.unusedVariables false

/-- Ways in their order, each once. -/
def setW (ys : List Wy) : List Wy := compW (sortW ys)
set_option maxHeartbeats 4000000 in
set_option maxRecDepth 100000 in
theorem rising_any (B : Nat) (v : Value) (ys : List Wy) (w : World) (h : Own wc 2 40 w B v ys) (hl : ys.length < 4611686018427387904) :
    Calls Tryz.prog 59 #[v] w fun e w' => ∃ v', e = .returned v' ∧ Own wc 2 40 w' B v' (setW ys) ∧ w.grownBy w' v.ownBlock ∧ (v'.ownBlock = v.ownBlock) := by
  rcases h.at with ⟨rfl, rfl⟩ | ⟨g, cap, rfl, hB, hat⟩
  · have hs := AnyF.slices_SortFunc_none Tryz.sortWays none 0 (.func (.func 49) #[] #[]) w
    have hs' : Calls Tryz.prog 67 #[.slice none 0 0, .func (.func 49) #[] #[]] w fun e w' => e = .returned (.tuple #[]) ∧ w' = w := hs
    have HR := Lib.hid (Own.nil (enc := wc) (k := 2) w 40 B)
    clear h hs hl
    have hc : Calls Tryz.prog 68 #[.slice none 0 0] w fun e w' => e = .returned (.slice none 0 0) ∧ w' = w := by
      clear hs'
      go_enter Tryz.func68, Tryz.ntmps68
      go_wp2
      go_ret
      exact ⟨rfl, rfl⟩
    go_enter Tryz.func59, Tryz.ntmps59
    go_wp2_with fail
    refine hs'.mono ?_
    rintro e w' ⟨rfl, rfl⟩
    go_wp2_with fail
    refine hc.mono ?_
    rintro e w' ⟨rfl, rfl⟩
    go_wp2
    go_ret
    refine ⟨_, rfl, ?_, grown_refl _ _, rfl⟩
    have : setW [] = [] := by unfold setW sortW; simp [compW]
    rw [this]
    exact HR.out
  · have hs := sortF_any g cap ys w hat hl
    have HB := Lib.hid hB
    have HLs := Lib.hid (sortW_len ys)
    clear h hat hB hl
    go_enter Tryz.func59, Tryz.ntmps59
    go_wp2_with fail
    refine hs.mono ?_
    rintro e w1 ⟨rfl, hat1, hg1⟩
    have hc := compW_any g cap (sortW ys) w1 hat1
    rw [HLs.out] at hc
    have HAt := Lib.hid hat1; have HG := Lib.hid hg1
    clear hs hat1 hg1
    go_wp2_with fail
    refine hc.mono ?_
    rintro e w2 ⟨rfl, hat2, hg2⟩
    have HAt2 := Lib.hid hat2; have HG2 := Lib.hid (grown_trans HG.out hg2)
    clear hc hat2 hg2
    go_wp2
    go_ret
    refine ⟨_, rfl, ?_, HG2.out, rfl⟩
    exact HAt2.out.own wc_len HB.out

set_option maxHeartbeats 8000000 in
set_option maxRecDepth 100000 in
theorem sever_any (v vw : Value) (f : Flt) (ws : List Wy) (w : World) (h : FlR w v f) (hf : f.Fits) (hw : Sl wc 2 w vw ws) (hok : ∀ y ∈ ws, Wy.Ok y) (hl : (f.cut.length + ws.length) * 16 ≤ 140737488355328) :
    Calls Tryz.prog 39 #[v, vw] w (TwoS w ⟨f.next, f.list.filter (fun x => !inWays ws x), setW (f.cut ++ ws)⟩ ((f.list.length : Int) - (f.list.filter (fun x => !inWays ws x)).length)) := by
  have hmf : ∀ (fn : Fn) (first cap : Array Value) (w : World), (Instr.makeFunc fn first cap).run Tryz.prog w = .ok (.func fn first cap) w := fun _ _ _ _ => rfl
  obtain ⟨vl, vc, rfl, hll, hc⟩ := id h
  have hb1 := below_new w (.cells #[.int .i64 f.next, vl, vc] 25)
  have hb2 := below_new (w.alloc (.cells #[.int .i64 f.next, vl, vc] 25)) (.cells #[.int .i64 0, .slice none 0 0, .slice none 0 0] 25)
  have hx1 := (fbox_new w f.next vl vc).keep hb2
  have hx2 := fbox_new (w.alloc (.cells #[.int .i64 f.next, vl, vc] 25)) 0 (.slice none 0 0) (.slice none 0 0)
  rw [World.size_alloc] at hx2
  have hb := hb1.trans (hb2.mono (by simp))
  have HFl := Lib.hid (h.keep hb); have HS1 := Lib.hid (hc.keep hb); have HWs := Lib.hid (hw.keep hb)
  have HX1 := Lib.hid hx1; have HX2 := Lib.hid hx2; have HB := Lib.hid hb; have HFt := Lib.hid hf; have HOk := Lib.hid hok; have HLn := Lib.hid hl
  obtain ⟨al, cl, rfl⟩ := hc.slice
  obtain ⟨aw, cw, rfl⟩ := hw.slice
  obtain ⟨n, l, c⟩ := f
  simp only at HS1 HX1 HX2 HB HFl HFt HLn ⊢
  clear hll hc hb1 hb2 hx1 hx2 hb h hf hw hok hl
  go_enter Tryz.func39, Tryz.ntmps39
  go_upto_region 1 with fail
  generalize (w.alloc (.cells #[.int .i64 n, _, _] 25)).alloc _ = W at HFl HS1 HWs HX1 HX2 HB ⊢
  generalize hN2 : w.heap.size + 1 = N2 at HX2 ⊢
  obtain ⟨N, hN⟩ : ∃ N, w.heap.size = N := ⟨_, rfl⟩
  rw [hN] at HX1 ⊢
  have HN := Lib.hid (And.intro hN hN2)
  clear hN hN2
  go_wp2_with fail
  refine (placesOf_any _ ws W HWs.out HOk.out (by have := HLn.out; unfold maxLen; omega)).mono ?_
  rintro e w1 ⟨b, rfl, hp1, hb1⟩
  have hb3 := below_new w1 (.cells #[.map (some b)] 84)
  have hcm : (w1.alloc (.cells #[.map (some b)] 84)).cell? ⟨w1.heap.size, 0, none⟩ = some (.map (some b)) := by rw [World.cell?_alloc_at _ _ _ _ rfl]; rfl
  have hmeant : Meant (w1.alloc (.cells #[.map (some b)] 84)) (.func (.func 58) #[] #[.pointer (some ⟨w1.heap.size, 0, none⟩)]) (inWays ws) := by
    refine ⟨_, _, rfl, enters_of Tryz.func58 (by kernel_rfl) rfl, fun W' hW' x hx => ?_⟩
    exact sever1_any w1.heap.size b ws x W' ((hW'.cell (p := ⟨w1.heap.size, 0, none⟩) (by simp)).trans hcm) ((hp1.keep hb3).keep hW') HOk.out hx
  have hbb := hb1.trans (hb3.mono hb1.size)
  have HMeant := Lib.hid hmeant
  have HX1' := Lib.hid (HX1.out.keep hbb); have HX2' := Lib.hid (HX2.out.keep hbb); have HFl' := Lib.hid (HFl.out.keep hbb)
  have HS1' := Lib.hid (HS1.out.keep hbb); have HWs' := Lib.hid (HWs.out.keep hbb)
  have HB1 := Lib.hid (HB.out.trans (hbb.mono HB.out.size))
  have HSz := Lib.hid hbb.size
  clear hp1 hb1 hb3 hcm hmeant hbb
  go_upto_region 2 with fail
  generalize (w1.alloc (.cells #[.map (some b)] 84)) = W1 at HMeant HX1' HX2' HFl' HS1' HWs' HB1 HSz ⊢
  generalize w1.heap.size = N3 at HMeant ⊢
  obtain ⟨e1, e2, e3⟩ := HX1'.out.cells
  go_wp2_with fail
  refine (without_any _ _ ⟨n, l, c⟩ (inWays ws) W1 HFl'.out HFt.out HMeant.out).mono ?_
  rintro e w2 ⟨vl2, vc2, rfl, ho1, ho2, hb2⟩
  simp only at ho1 ho2 ⊢
  obtain ⟨a1, c1, rfl⟩ := ho1.slice
  obtain ⟨a2, c2, rfl⟩ := ho2.slice
  have hb3 := below_new w2 (.cells #[.int .i64 n, .slice a1 (l.filter fun x => !inWays ws x).length c1, .slice a2 c.length c2] 25)
  obtain ⟨m, hm⟩ : ∃ m, (l.filter fun x => !inWays ws x).length = m := ⟨_, rfl⟩
  have HMm := Lib.hid hm
  rw [hm] at ho1 hb3 ⊢
  have HX4 := Lib.hid (fbox_new w2 n (.slice a1 m c1) (.slice a2 c.length c2))
  have hbb := hb2.trans (hb3.mono hb2.size)
  have HX12 := Lib.hid (HX1'.out.keep hbb); have HX22 := Lib.hid (HX2'.out.keep hbb)
  have HS12 := Lib.hid (HS1'.out.keep hbb); have HWs2 := Lib.hid (HWs'.out.keep hbb)
  have HO1 := Lib.hid (ho1.below hb3)
  have HB2 := Lib.hid (HB1.out.trans (hbb.mono HB1.out.size))
  have HS4 := Lib.hid hb2.size
  have HBk1 := Lib.hid (World.ownsRow.lt ho1)
  clear ho1 ho2 hb2 hb3 hbb e1 e2 e3 hm
  go_upto_region 3 with fail
  generalize (w2.alloc (.cells #[.int .i64 n, .slice a1 m c1, .slice a2 c.length c2] 25)) = W2 at HX4 HX12 HX22 HS12 HWs2 HO1 HB2 ⊢
  generalize w2.heap.size = N4 at HX4 HS4 HBk1 ⊢
  obtain ⟨e1, e2, e3⟩ := HX12.out.cells
  have hb5 := below_new W2 (.cells #[.slice al c.length cl, .slice aw ws.length cw] 23)
  have hal := alloc_at W2 (.cells #[.slice al c.length cl, .slice aw ws.length cw] 23)
  have hcc : ∀ j v, (#[Value.slice al c.length cl, .slice aw ws.length cw] : Array Value)[j]? = some v → (W2.alloc (.cells #[.slice al c.length cl, .slice aw ws.length cw] 23)).cell? ⟨W2.heap.size, j, none⟩ = some v := by
    intro j v hv
    simp only [World.cell?, hal]
    exact hv
  have hcon := concatW_any W2.heap.size _ _ c ws _ (HS12.out.keep hb5) (HWs2.out.keep hb5) (hcc 0 _ rfl) (hcc 1 _ rfl) HLn.out
  have HCon := Lib.hid hcon
  have HX15 := Lib.hid (HX12.out.keep hb5); have HX25 := Lib.hid (HX22.out.keep hb5); have HX45 := Lib.hid (HX4.out.keep hb5); have HO15 := Lib.hid (HO1.out.below hb5)
  have HB5 := Lib.hid (HB2.out.trans (hb5.mono HB2.out.size))
  have HS5 := Lib.hid hb5.size
  have HN45 := Lib.hid HX4.out.lt
  clear hcon hcc hal hb5
  go_wp2_with fail
  refine HCon.out.mono ?_
  rintro e w5 ⟨v5, rfl, ho5, hb5⟩
  obtain ⟨x5, y5, rfl⟩ := ho5.slice
  have HX46 := Lib.hid (HX45.out.keep hb5); have HX26 := Lib.hid (HX25.out.keep hb5); have HO16 := Lib.hid (HO15.out.below hb5)
  have HB6 := Lib.hid (HB5.out.trans (hb5.mono HB5.out.size))
  have hbk5 := World.ownsRow.lt ho5
  have hN4lt : N4 < (W2.alloc (.cells #[.slice al c.length cl, .slice aw ws.length cw] 23)).heap.size := Nat.lt_of_lt_of_le HN45.out HS5.out
  have hN2lt : N2 < (W2.alloc (.cells #[.slice al c.length cl, .slice aw ws.length cw] 23)).heap.size := HX25.out.lt
  have hnb4 : some N4 ≠ (Value.slice x5 (c ++ ws).length y5).ownBlock := fun e => by have := (hbk5 N4 e.symm).1; omega
  have hnb2 : some N2 ≠ (Value.slice x5 (c ++ ws).length y5).ownBlock := fun e => by have := (hbk5 N2 e.symm).1; omega
  have hris := rising_any w.heap.size _ _ w5 (ho5.mono HB5.out.size) (by have := HLn.out; rw [List.length_append]; omega)
  have HRis := Lib.hid hris
  have HDj := Lib.hid (HDisj HO16.out ho5)
  have HBk5 : Hid (∀ k, (Value.slice x5 (c ++ ws).length y5).ownBlock = some k → W2.heap.size ≤ k) := Lib.hid (fun k e => Nat.le_trans HS5.out (hbk5 k e).1)
  have HNb := Lib.hid (And.intro hnb4 hnb2)
  obtain ⟨L5, hL5⟩ : ∃ L, (c ++ ws).length = L := ⟨_, rfl⟩
  simp only [hL5] at HRis HDj HBk5 HNb ⊢
  clear ho5 hb5 e1 e2 e3 hbk5 hN4lt hN2lt hnb4 hnb2 hris hL5
  go_wp2_with fail
  refine HRis.out.mono ?_
  rintro e w6 ⟨v6, rfl, ho6, hg6, hbk6⟩
  obtain ⟨x6, y6, rfl⟩ := ho6.slice
  have HX47 := Lib.hid (show FBox w6 N4 n (.slice a1 m c1) (.slice a2 c.length c2) from (hg6.block _ HX46.out.lt HNb.out.1).trans HX46.out)
  have HX27 := Lib.hid (show FBox w6 N2 0 (.slice none 0 0) (.slice none 0 0) from (hg6.block _ HX26.out.lt HNb.out.2).trans HX26.out)
  have hdj1 : (Value.slice a1 m c1).ownBlock = none ∨ (Value.slice a1 m c1).ownBlock ≠ (Value.slice x5 L5 y5).ownBlock := by
    rcases h1 : (Value.slice a1 m c1).ownBlock with _ | k
    · exact .inl rfl
    · refine .inr fun e => ?_
      rcases HDj.out with h | h
      · rw [h] at e; cases e
      · rw [h1] at h; exact h e.symm
  have HO17 := Lib.hid (HO16.out.grown hg6 hdj1)
  have HO6 := Lib.hid ho6
  have HB7 := Lib.hid (HB6.out.grown hg6 HB6.out.size (fun k e => Nat.le_trans HB2.out.size (HBk5.out k e)))
  obtain ⟨L6, hL6⟩ : ∃ L, (setW (c ++ ws)).length = L := ⟨_, rfl⟩
  rw [hL6] at hbk6
  have HBk6 := Lib.hid (show ∀ k, (Value.slice x6 L6 y6).ownBlock = some k → W2.heap.size ≤ k from fun k e => HBk5.out k (hbk6.symm.trans e))
  simp only [hL6] at HO6 ⊢
  clear ho6 hg6 hbk6 hdj1 hL6
  obtain ⟨e1, e2, e3⟩ := HX47.out.cells
  obtain ⟨f1, f2, f3⟩ := HX47.out.thaw
  obtain ⟨k1, k2, k3⟩ := HX27.out.cells
  obtain ⟨m1, m2, m3⟩ := HX27.out.thaw
  have hN4 : N2 < N4 := Nat.lt_of_lt_of_le HX2'.out.lt HS4.out
  have q1 : ¬ N4 = N2 := by omega
  have q2 : ¬ N2 = N4 := by omega
  have n14 : (Value.slice a1 m c1).ownBlock ≠ some N4 := fun e => by have := (HBk1.out N4 e).2; omega
  have n12 : (Value.slice a1 m c1).ownBlock ≠ some N2 := fun e => by have := (HBk1.out N2 e).1; have := HX2'.out.lt; omega
  have n64 : (Value.slice x6 L6 y6).ownBlock ≠ some N4 := fun e => by have := HBk6.out N4 e; have := HN45.out; omega
  have n62 : (Value.slice x6 L6 y6).ownBlock ≠ some N2 := fun e => by have := HBk6.out N2 e; have := HX22.out.lt; omega
  have hX2 : FBox (w6.setCell ⟨N4, 2, none⟩ (.slice x6 L6 y6)) N2 0 (.slice none 0 0) (.slice none 0 0) := (heap_setCell_other _ _ _ _ (by show N2 ≠ N4; omega)).trans HX27.out
  have HFin := Lib.hid (hX2.set n (.slice a1 m c1) (.slice x6 L6 y6))
  have HO1f := Lib.hid (((((HO17.out.setOther n14 2 (.slice x6 L6 y6)).setOther n12 0 (.int .i64 n)).setOther n12 1 (.slice a1 m c1)).setOther n12 2 (.slice x6 L6 y6)).mono (HB1.out.size))
  have HO6f := Lib.hid ((((HO6.out.setOther n64 2 (.slice x6 L6 y6)).setOther n62 0 (.int .i64 n)).setOther n62 1 (.slice a1 m c1)).setOther n62 2 (.slice x6 L6 y6))
  have hle4 : w.heap.size ≤ N4 := by have := HN.out; omega
  have HBf := Lib.hid (below_set3 (HB7.out.setCell (p := ⟨N4, 2, none⟩) hle4 (.slice x6 L6 y6)) (show w.heap.size ≤ N2 by have := HN.out; omega) (.int .i64 n) (.slice a1 m c1) (.slice x6 L6 y6))
  clear n14 n12 n64 n62 hX2 hle4 hN4
  go_wp2
  generalize ((((w6.setCell ⟨N4, 2, none⟩ (.slice x6 L6 y6)).setCell ⟨N2, 0, none⟩ (.int .i64 n)).setCell ⟨N2, 1, none⟩ (.slice a1 m c1)).setCell ⟨N2, 2, none⟩ (.slice x6 L6 y6)) = W9 at HFin HO1f HO6f HBf ⊢
  refine bodyPost_ret (retF2 rfl rfl HFin.out) rfl ?_
  refine ⟨_, _, ?_, HO1f.out, HO6f.out, HBf.out⟩
  rw [HMm.out]
  rfl

/-- 'there' of two sets of one that were just built. -/
def ThereP (W : World) (a b : Int) (e : Ending) (w' : World) : Prop := ∃ v', e = .returned v' ∧ Own wc 2 40 w' W.heap.size v' (thereL [a] [b]) ∧ Below W.heap.size W w'
theorem there_ab (W : World) (a b : Int) : Calls Tryz.prog 40 #[.slice (some ⟨W.heap.size, 0, none⟩) 1 1, .slice (some ⟨W.heap.size + 1, 0, none⟩) 1 1] ((W.alloc (.cells #[.int .i64 a] 3)).alloc (.cells #[.int .i64 b] 3)).drew (ThereP W a b) := by
  have h1 := sl_new ic_len W a 3 W.heap.size rfl
  have h2 := sl_new ic_len (W.alloc (.cells (ic a).toArray 3)) b 3 (W.heap.size + 1) (by simp)
  have hb1 := below_new W (.cells (ic a).toArray 3)
  have hb2 := below_new (W.alloc (.cells (ic a).toArray 3)) (.cells (ic b).toArray 3)
  have hd : Below ((W.alloc (.cells (ic a).toArray 3)).alloc (.cells (ic b).toArray 3)).heap.size ((W.alloc (.cells (ic a).toArray 3)).alloc (.cells (ic b).toArray 3)) ((W.alloc (.cells (ic a).toArray 3)).alloc (.cells (ic b).toArray 3)).drew := ⟨rfl, rfl, rfl, Nat.le_refl _, fun _ _ => rfl⟩
  have hb := hb1.trans (hb2.mono hb1.size)
  refine (there_any _ _ [a] [b] _ ((h1.keep hb2).keep hd) (h2.keep hd) (by simp)).mono ?_
  rintro e w' ⟨v', rfl, ho, hw⟩
  exact ⟨v', rfl, ho.mono (show W.heap.size ≤ _ from hb.size), (below_drew hb).trans (hw.mono (show W.heap.size ≤ _ from hb.size))⟩
theorem there_ba (W : World) (a b : Int) : Calls Tryz.prog 40 #[.slice (some ⟨W.heap.size + 1, 0, none⟩) 1 1, .slice (some ⟨W.heap.size, 0, none⟩) 1 1] ((W.alloc (.cells #[.int .i64 b] 3)).alloc (.cells #[.int .i64 a] 3)).drew (ThereP W a b) := by
  have h1 := sl_new ic_len W b 3 W.heap.size rfl
  have h2 := sl_new ic_len (W.alloc (.cells (ic b).toArray 3)) a 3 (W.heap.size + 1) (by simp)
  have hb1 := below_new W (.cells (ic b).toArray 3)
  have hb2 := below_new (W.alloc (.cells (ic b).toArray 3)) (.cells (ic a).toArray 3)
  have hd : Below ((W.alloc (.cells (ic b).toArray 3)).alloc (.cells (ic a).toArray 3)).heap.size ((W.alloc (.cells (ic b).toArray 3)).alloc (.cells (ic a).toArray 3)) ((W.alloc (.cells (ic b).toArray 3)).alloc (.cells (ic a).toArray 3)).drew := ⟨rfl, rfl, rfl, Nat.le_refl _, fun _ _ => rfl⟩
  have hb := hb1.trans (hb2.mono hb1.size)
  refine (there_any _ _ [a] [b] _ (h2.keep hd) ((h1.keep hb2).keep hd) (by simp)).mono ?_
  rintro e w' ⟨v', rfl, ho, hw⟩
  exact ⟨v', rfl, ho.mono (show W.heap.size ≤ _ from hb.size), (below_drew hb).trans (hw.mono (show W.heap.size ≤ _ from hb.size))⟩
theorem there_ok {a b : Int} (h : Wy.Ok (a, b)) : ∀ y ∈ thereL [a] [b], Wy.Ok y := by
  intro y hy
  unfold thereL from1 at hy
  simp only [List.flatMap_cons, List.flatMap_nil, List.append_nil, List.mem_map, List.mem_filter, List.mem_singleton] at hy
  obtain ⟨z, ⟨rfl, _⟩, rfl⟩ := hy
  exact h
set_option maxHeartbeats 8000000 in
set_option maxRecDepth 100000 in
theorem Cut_any (v : Value) (f : Flt) (a b : Int) (w : World) (h : FlR w v f) (hf : f.Fits) (hx : Wy.Ok (a, b)) (hl : (f.cut.length + 1) * 16 ≤ 140737488355328) :
    Calls Tryz.prog 15 #[v, .int .i64 a, .int .i64 b] w (TwoS w ⟨f.next, f.list.filter (fun x => !inWays (thereL [a] [b]) x), setW (f.cut ++ thereL [a] [b])⟩ ((f.list.length : Int) - (f.list.filter (fun x => !inWays (thereL [a] [b]) x)).length)) := by
  obtain ⟨vl, vc, rfl, hll, hc⟩ := id h
  have hb1 := below_new w (.cells #[.int .i64 f.next, vl, vc] 25)
  have hb2 := below_new (w.alloc (.cells #[.int .i64 f.next, vl, vc] 25)) (.cells #[.int .i64 0, .slice none 0 0, .slice none 0 0] 25)
  have hx1 := (fbox_new w f.next vl vc).keep hb2
  have hx2 := fbox_new (w.alloc (.cells #[.int .i64 f.next, vl, vc] 25)) 0 (.slice none 0 0) (.slice none 0 0)
  rw [World.size_alloc] at hx2
  have hb := hb1.trans (hb2.mono (by simp))
  have HFl := Lib.hid (h.keep hb)
  have HX1 := Lib.hid hx1; have HX2 := Lib.hid hx2; have HB := Lib.hid hb; have HFt := Lib.hid hf; have HXo := Lib.hid hx; have HLn := Lib.hid hl
  obtain ⟨n, l, c⟩ := f
  simp only at HX1 HX2 HB HFl HFt HLn ⊢
  clear hll hc hb1 hb2 hx1 hx2 hb h hf hx hl
  go_enter Tryz.func15, Tryz.ntmps15
  go_upto_region 1 with fail
  generalize (w.alloc (.cells #[.int .i64 n, _, _] 25)).alloc _ = W at HFl HX1 HX2 HB ⊢
  generalize hN2 : w.heap.size + 1 = N2 at HX2 ⊢
  obtain ⟨N, hN⟩ : ∃ N, w.heap.size = N := ⟨_, rfl⟩
  rw [hN] at HX1 ⊢
  have HN := Lib.hid (And.intro hN hN2)
  clear hN hN2
  obtain ⟨e1, e2, e3⟩ := HX1.out.cells
  have hd : Below W.heap.size W W.drew := ⟨rfl, rfl, rfl, Nat.le_refl _, fun _ _ => rfl⟩
  have al1 : ∀ o, Below W.heap.size W (W.alloc o).drew := fun o => below_drew ((Below.refl _ W).alloc (Nat.le_refl _) o)
  have al2 : ∀ o o', Below W.heap.size W ((W.alloc o).alloc o').drew := fun o o' => below_drew (((Below.refl _ W).alloc (Nat.le_refl _) o).alloc (by simp) o')
  have hab := there_ab W a b
  have hba := there_ba W a b
  have HAb := Lib.hid hab; have HBa := Lib.hid hba
  clear hab hba
  have hS : ∀ u, Below W.heap.size W u → u.cell? ⟨N, 0, none⟩ = some (.int .i64 n) ∧ u.cell? ⟨N, 1, none⟩ = some vl ∧ u.cell? ⟨N, 2, none⟩ = some vc := fun u hu => (HX1.out.keep hu).cells
  have HSs := Lib.hid hS; have HD := Lib.hid hd; have HA1 := Lib.hid al1; have HA2 := Lib.hid al2
  have HLl : Hid ((thereL [a] [b]).length ≤ 1) := Lib.hid (by have := thereL_len [a] [b]; simpa using this)
  clear hd al1 al2 hS
  go_region_held3 (fun u => u.cell? ⟨N, 0, none⟩ = some (.int .i64 n) ∧ u.cell? ⟨N, 1, none⟩ = some vl ∧ u.cell? ⟨N, 2, none⟩ = some vc)
    (first | exact HSs.out _ HD.out | exact HSs.out _ (HA1.out _) | exact HSs.out _ (HA2.out _ _) | exact HSs.out _ HB3.out | exact HSs.out _ HB4.out | exact (HX14.out.other HNe2.out _ _ _).cells)
    (first
      | ((go_at_call 40; first | with_reducible refine HAb.out.mono ?_ | with_reducible refine HBa.out.mono ?_); (rintro e w3 ⟨v3, rfl, ho3, hb3⟩; obtain ⟨x3, y3, rfl⟩ := ho3.slice; have HB3 := Lib.hid hb3; have HO3 := Lib.hid ho3; clear ho3 hb3))
      | ((go_at_call 39; refine (sever_any _ _ ⟨n, l, c⟩ (thereL [a] [b]) w3 (HFl.out.keep HB3.out) HFt.out (HO3.out.read wc_len) (there_ok HXo.out) (by have := HLn.out; have := HLl.out; simp only; omega)).mono ?_); (rintro e w4 ⟨vl4, vc4, rfl, ho4, ho5, hb4⟩; simp only at ho4 ho5; obtain ⟨x4, y4, rfl⟩ := ho4.slice; obtain ⟨x5, y5, rfl⟩ := ho5.slice; have HB4 := Lib.hid (HB3.out.trans (hb4.mono HB3.out.size)); have HX14 := Lib.hid (HX1.out.keep HB4.out); have HX24 := Lib.hid (HX2.out.keep HB4.out); have HO4 := Lib.hid ho4; have HO5 := Lib.hid ho5; have HNe2 := Lib.hid (show N ≠ N2 by have := HN.out; omega); clear ho4 ho5 hb4; obtain ⟨k1, k2, k3⟩ := HX24.out.cells; obtain ⟨f1, f2, f3⟩ := HX24.out.thaw)))
  all_goals
    have hlt : N2 < w3.heap.size := Nat.lt_of_lt_of_le HX2.out.lt HB3.out.size
    have hle : w.heap.size ≤ w3.heap.size := Nat.le_trans HB.out.size HB3.out.size
    have hF := HX24.out.set n (.slice x4 (l.filter fun x => !inWays (thereL [a] [b]) x).length y4) (.slice x5 (setW (c ++ thereL [a] [b])).length y5)
    have hO1 := (HO4.out.set3 hlt (.int .i64 n) (.slice x4 (l.filter fun x => !inWays (thereL [a] [b]) x).length y4) (.slice x5 (setW (c ++ thereL [a] [b])).length y5)).mono hle
    have hO2 := (HO5.out.set3 hlt (.int .i64 n) (.slice x4 (l.filter fun x => !inWays (thereL [a] [b]) x).length y4) (.slice x5 (setW (c ++ thereL [a] [b])).length y5)).mono hle
    have hB := below_set3 (HB.out.trans (HB4.out.mono HB.out.size)) (show w.heap.size ≤ N2 by have := HN.out; omega) (.int .i64 n) (.slice x4 (l.filter fun x => !inWays (thereL [a] [b]) x).length y4) (.slice x5 (setW (c ++ thereL [a] [b])).length y5)
    have HF := Lib.hid hF; have HO1 := Lib.hid hO1; have HO2 := Lib.hid hO2; have HBf := Lib.hid hB
    clear hF hO1 hO2 hB e1 e2 e3 k1 k2 k3 f1 f2 f3
    generalize (((w4.setCell ⟨N2, 0, none⟩ (.int .i64 n)).setCell ⟨N2, 1, none⟩ (.slice x4 (l.filter fun x => !inWays (thereL [a] [b]) x).length y4)).setCell ⟨N2, 2, none⟩ (.slice x5 (setW (c ++ thereL [a] [b])).length y5)) = W9 at HF HO1 HO2 HBf ⊢
    go_wp2
    refine bodyPost_ret (retF2 rfl rfl HF.out) rfl ?_
    exact ⟨_, _, rfl, HO1.out, HO2.out, HBf.out⟩

end Go.Proofs.YtalnmbfmfeaohaaGreat.flight
