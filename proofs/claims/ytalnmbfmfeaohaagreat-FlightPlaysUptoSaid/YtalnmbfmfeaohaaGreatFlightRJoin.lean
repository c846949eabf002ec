/- The document's Join. -/
import Derived.Test.YtalnmbfmfeaohaaGreatRows
import Derived.Test.YtalnmbfmfeaohaaGreatFlightRLose
import Derived.Test.YtalnmbfmfeaohaaGreatFlightJoin
namespace Go.Proofs.YtalnmbfmfeaohaaGreat.flight
open Go.RowKit
open Go.Proofs.YtalnmbfmfeaohaaGreat.kit Go.Proofs.YtalnmbfmfeaohaaGreat.own
set_option linter.unusedVariables false
set_option linter.unusedSimpArgs false

/-- A first part of a row, and a last part. -/
theorem sl_take {α : Type} {enc : α → List Value} {k : Nat} {w : World} {ax : Addr} {cx : Nat} {xs : List α} (h : Sl enc k w (.slice (some ax) xs.length cx) xs) (i : Nat) (hi : i ≤ xs.length) : Sl enc k w (.slice (some ax) i cx) (xs.take i) := by
  obtain ⟨h1, a, c, he, h2, h3⟩ := h
  have hlen : (xs.take i).length = i := by rw [List.length_take]; omega
  refine ⟨by rw [hlen]; exact Nat.le_trans hi h1, some ax, cx, by rw [hlen], (by intro e; cases e), fun hp => ?_⟩
  rw [hlen] at hp
  obtain ⟨b, off, ha, hb, hr⟩ := h3 (by omega)
  cases he
  refine ⟨b, off, ha, hb, fun j hj => ?_⟩
  rw [List.getElem_take]
  exact hr j (by omega)
theorem sl_drop {α : Type} {enc : α → List Value} {k : Nat} {w : World} {bk off cx : Nat} {xs : List α} (h : Sl enc k w (.slice (some ⟨bk, off, none⟩) xs.length cx) xs) (i : Nat) (hi : i ≤ xs.length) (A : Addr) (c2 : Nat) (hA : i < xs.length → A = ⟨bk, off + i * k, none⟩) : Sl enc k w (.slice (some A) (xs.length - i) c2) (xs.drop i) := by
  obtain ⟨h1, a, c, he, h2, h3⟩ := h
  have hlen : (xs.drop i).length = xs.length - i := List.length_drop ..
  refine ⟨by rw [hlen]; omega, some A, c2, by rw [hlen], (by intro e; cases e), fun hp => ?_⟩
  rw [hlen] at hp
  obtain ⟨b, o, ha, hb, hr⟩ := h3 (by omega)
  cases he
  cases ha
  refine ⟨_, off + i * k, by rw [hA (by omega)], hb, fun j hj => ?_⟩
  rw [List.getElem_drop]
  have := hr (i + j) (by rw [List.length_drop] at hj; omega)
  rw [Nat.add_mul, ← Nat.add_assoc] at this
  exact this

set_option maxHeartbeats 16000000 in
set_option maxRecDepth 100000 in
theorem rJoin_any (v : Value) (f : Flt) (a b : Int) (w : World) (h : FlR w v f) (hl1 : f.list.length * 40 ≤ 140737488355328) (hl2 : f.cut.length * 16 ≤ 140737488355328) (hcp : ∀ vn vl ax m cx, v = .agg #[vn, vl, .slice ax m cx] → m ≤ cx) :
    Calls Tryz.prog 23 #[v, .int .i64 a, .int .i64 b] w (fun e w' => (¬ (a, b) ∈ f.cut ∧ TwoB w f false e w') ∨ ∃ (i : Nat) (hi : i < f.cut.length), f.cut[i] = (a, b) ∧ TwoB w ⟨f.next, f.list, f.cut.take i ++ f.cut.drop (i + 1)⟩ true e w') := by
  obtain ⟨vl, vc, rfl, hl, hc⟩ := id h
  have hb1 := below_new w (.cells #[.int .i64 f.next, vl, vc] 25)
  have hb2 := below_new (w.alloc (.cells #[.int .i64 f.next, vl, vc] 25)) (.cells #[.int .i64 0, .slice none 0 0, .slice none 0 0] 25)
  have hx1 := (fbox_new w f.next vl vc).keep hb2
  have hx2 := fbox_new (w.alloc (.cells #[.int .i64 f.next, vl, vc] 25)) 0 (.slice none 0 0) (.slice none 0 0)
  rw [World.size_alloc] at hx2
  have hb := hb1.trans (hb2.mono (by simp))
  have HFl := Lib.hid (h.keep hb); have HSc := Lib.hid (hc.keep hb)
  have HX1 := Lib.hid hx1; have HX2 := Lib.hid hx2; have HB := Lib.hid hb; have HL1 := Lib.hid hl1; have HL2 := Lib.hid hl2
  obtain ⟨al, cl, hvl⟩ := hl.slice
  subst hvl
  obtain ⟨ac, cc, hvc⟩ := hc.slice
  subst hvc
  have hcc : f.cut.length ≤ cc := hcp _ _ _ _ _ rfl
  clear hcp
  obtain ⟨n, l, c⟩ := f
  simp only at HX1 HX2 HB HFl HSc HL1 HL2 hcc ⊢
  have HCc := Lib.hid hcc
  clear hcc
  clear hl hc hb1 hb2 hx1 hx2 hb h hl1 hl2
  go_enter Tryz.func23, Tryz.ntmps23
  go_upto_region 1 with fail
  generalize (w.alloc (.cells #[.int .i64 n, _, _] 25)).alloc _ = W at HFl HSc HX1 HX2 HB ⊢
  generalize hN2 : w.heap.size + 1 = N2 at HX2 ⊢
  obtain ⟨N, hN⟩ : ∃ N, w.heap.size = N := ⟨_, rfl⟩
  rw [hN] at HX1 ⊢
  have HN := Lib.hid (And.intro hN hN2)
  clear hN hN2
  obtain ⟨e1, e2, e3⟩ := HX1.out.cells
  go_wp2_with fail
  refine (rCopy_any _ ⟨n, l, c⟩ W HFl.out (by exact HL1.out) HL2.out).mono ?_
  rintro e w1 ⟨vl1, vc1, rfl, ho1, ho2, hb1⟩
  simp only at ho1 ho2 ⊢
  obtain ⟨a1, c1, rfl⟩ := ho1.slice
  obtain ⟨a2, c2, rfl⟩ := ho2.slice
  have hb3 := below_new w1 (.cells #[.int .i64 n, .slice a1 l.length c1, .slice a2 c.length c2] 25)
  have hbb := hb1.trans (hb3.mono hb1.size)
  have HX3 := Lib.hid (fbox_new w1 n (.slice a1 l.length c1) (.slice a2 c.length c2))
  have HX1' := Lib.hid (HX1.out.keep hbb); have HX2' := Lib.hid (HX2.out.keep hbb); have HFl' := Lib.hid (HFl.out.keep hbb)
  have HO1 := Lib.hid (ho1.below hb3); have HO2 := Lib.hid (ho2.below hb3)
  have HBlk1 := Lib.hid ho1.blk; have HBlk2 := Lib.hid ho2.blk
  have HB3 := Lib.hid (HB.out.trans (hbb.mono HB.out.size))
  have HSz := Lib.hid hb1.size; have HBW1 := Lib.hid hbb
  clear ho1 ho2 hb1 hb3 hbb e1 e2 e3
  go_upto_region 2 with fail
  generalize (w1.alloc (.cells #[.int .i64 n, .slice a1 l.length c1, .slice a2 c.length c2] 25)) = W1 at HX3 HX1' HX2' HFl' HO1 HO2 HB3 HBW1 ⊢
  generalize w1.heap.size = N3 at HX3 HBlk1 HBlk2 HSz ⊢
  obtain ⟨e1, e2, e3⟩ := HX1'.out.cells
  go_wp2_with fail
  refine (place_any _ ⟨n, l, c⟩ (a, b) W1 HFl'.out).mono ?_
  have HQ := Lib.hid (show N2 < W.heap.size ∧ N < N2 from ⟨HX2.out.lt, by have := HN.out; omega⟩)
  rintro e w2 ⟨hb2, hcase⟩
  have HX32 := Lib.hid (HX3.out.keep hb2); have HX22 := Lib.hid (HX2'.out.keep hb2); have HX12 := Lib.hid (HX1'.out.keep hb2)
  have HO12 := Lib.hid (HO1.out.below hb2); have HO22 := Lib.hid (HO2.out.below hb2)
  have HB2 := Lib.hid (HB3.out.trans (hb2.mono HB3.out.size)); have HBW2 := Lib.hid (HBW1.out.trans (hb2.mono HBW1.out.size))
  have HS2 := Lib.hid (show W.heap.size ≤ w2.heap.size from by have := HX32.out.lt; have := HSz.out; omega)
  have HBa := Lib.hid (show (Value.slice a1 l.length c1).ownBlock ≠ some N2 ∧ (Value.slice a1 l.length c1).ownBlock ≠ some N3 from ⟨fun e => by have := HBlk1.out N2 e; have := HQ.out; omega, fun e => by have := HBlk1.out N3 e; omega⟩)
  have HBb := Lib.hid (show (Value.slice a2 c.length c2).ownBlock ≠ some N2 ∧ (Value.slice a2 c.length c2).ownBlock ≠ some N3 from ⟨fun e => by have := HBlk2.out N2 e; have := HQ.out; omega, fun e => by have := HBlk2.out N3 e; omega⟩)
  clear e1 e2 e3 hb2
  have hq23 : ¬ N2 = N3 := by have := HQ.out; have := HSz.out; omega
  have hq32 : ¬ N3 = N2 := fun e => hq23 e.symm
  have HErr : Hid (FBox (((w2.setCell ⟨N2, 0, none⟩ (.int .i64 n)).setCell ⟨N2, 1, none⟩ (.slice a1 l.length c1)).setCell ⟨N2, 2, none⟩ (.slice a2 c.length c2)) N2 n (.slice a1 l.length c1) (.slice a2 c.length c2) ∧
      Own fc 4 38 (((w2.setCell ⟨N2, 0, none⟩ (.int .i64 n)).setCell ⟨N2, 1, none⟩ (.slice a1 l.length c1)).setCell ⟨N2, 2, none⟩ (.slice a2 c.length c2)) w.heap.size (.slice a1 l.length c1) l ∧
      Own wc 2 40 (((w2.setCell ⟨N2, 0, none⟩ (.int .i64 n)).setCell ⟨N2, 1, none⟩ (.slice a1 l.length c1)).setCell ⟨N2, 2, none⟩ (.slice a2 c.length c2)) w.heap.size (.slice a2 c.length c2) c ∧
      Below w.heap.size w (((w2.setCell ⟨N2, 0, none⟩ (.int .i64 n)).setCell ⟨N2, 1, none⟩ (.slice a1 l.length c1)).setCell ⟨N2, 2, none⟩ (.slice a2 c.length c2))) := Lib.hid
    ⟨HX22.out.set _ _ _, ((((HO12.out.mono HB.out.size).setOther HBa.out.1 _ _).setOther HBa.out.1 _ _).setOther HBa.out.1 _ _), ((((HO22.out.mono HB.out.size).setOther HBb.out.1 _ _).setOther HBb.out.1 _ _).setOther HBb.out.1 _ _), below_set3 HB2.out (by have := HN.out; omega) _ _ _⟩
  rcases hcase with ⟨hin, rfl⟩ | ⟨i, hi, hci, rfl⟩
  · simp only at hin
    have HIn := Lib.hid hin
    obtain ⟨k1, k2, k3⟩ := HX32.out.cells
    obtain ⟨g1, g2, g3⟩ := HX22.out.cells
    obtain ⟨f1, f2, f3⟩ := HX22.out.thaw
    clear hin
    go_wp2
    obtain ⟨hF, hO1, hO2, hB⟩ := HErr.out
    refine bodyPost_ret (retF2 rfl rfl hF) rfl (.inl ⟨HIn.out, ?_⟩)
    exact ⟨_, _, rfl, hO1, hO2, hB⟩
  · simp only at hi hci
    have hi0 : (0 : Int) ≤ (i : Int) := by omega
    have HIC := Lib.hid (show ∃ (h : i < c.length), c[i] = (a, b) from ⟨hi, hci⟩)
    clear hci
    obtain ⟨k1, k2, k3⟩ := HX32.out.cells
    obtain ⟨t1, t2, t3⟩ := HX32.out.thaw
    obtain ⟨e1, e2, e3⟩ := HX12.out.cells
    have hNN : N < N2 ∧ N2 < N3 ∧ W.heap.size ≤ N3 := ⟨by have := HN.out; omega, by have := HQ.out; have := HSz.out; omega, HSz.out⟩
    have HNN := Lib.hid hNN
    have hq13 : ¬ N = N3 := by omega
    obtain ⟨bk, off, rfl⟩ : ∃ bk off, ac = some (⟨bk, off, none⟩ : Addr) := by
      obtain ⟨_, a', c', he, -, hcell⟩ := HSc.out
      obtain ⟨bk, off, hak, -, -⟩ := hcell (by omega)
      cases he
      exact ⟨bk, off, hak⟩
    have HHi := Lib.hid hi
    go_upto_region 6 with fail
    clear k1 k2 k3 t1 t2 t3 e1 e2 e3 hNN
    have HX36 := Lib.hid (HX32.out.set2 (.slice none 0 0))
    have HX26 := Lib.hid (show FBox (w2.setCell ⟨N3, 2, none⟩ (.slice none 0 0)) N2 0 (.slice none 0 0) (.slice none 0 0) from (heap_setCell_other _ _ _ _ hq23).trans HX22.out)
    have HX16 := Lib.hid (show FBox (w2.setCell ⟨N3, 2, none⟩ (.slice none 0 0)) N n (.slice al l.length cl) (.slice (some ⟨bk, off, none⟩) c.length cc) from (heap_setCell_other _ _ _ _ hq13).trans HX12.out)
    have HO16 := Lib.hid ((HO12.out.mono HB.out.size).setOther HBa.out.2 2 (.slice none 0 0))
    have HBW6 := Lib.hid (HBW2.out.setCell (p := ⟨N3, 2, none⟩) HNN.out.2.2 (.slice none 0 0))
    generalize (w2.setCell ⟨N3, 2, none⟩ (.slice none 0 0)) = W6 at HX36 HX26 HX16 HO16 HBW6 ⊢
    clear HX32 HX22 HX12 HO12 HO22 HB2 HBW2 HErr HX3 HX1' HX2' HFl' HO1 HO2 HB3 HBW1
    have hbd := below_drew (Below.refl W6.heap.size W6)
    have HS6 := Lib.hid (sl_take (HSc.out.keep (HBW6.out.trans (hbd.mono HBW6.out.size))) i (Nat.le_of_lt hi))
    have HX3d := Lib.hid (HX36.out.keep hbd); have HX2d := Lib.hid (HX26.out.keep hbd); have HX1d := Lib.hid (HX16.out.keep hbd); have HO1d := Lib.hid (HO16.out.below hbd)
    have HBWd := Lib.hid (HBW6.out.trans (hbd.mono HBW6.out.size))
    have HNil := Lib.hid (Own.nil (enc := wc) (k := 2) W6.drew 40 (N3 + 1))
    have HSd : Hid (N3 + 1 ≤ W6.drew.heap.size) := Lib.hid HX3d.out.lt
    have hlt : (c.take i).length = i := by rw [List.length_take]; omega
    have HLt := Lib.hid hlt
    have hic : (i : Int) ≤ cc := by have := HCc.out; omega
    have HTy := Lib.hid (show (40 : Nat) ≠ 38 ∧ (38 : Nat) ≠ 40 by decide)
    clear hbd hlt
    obtain ⟨k1, k2, k3⟩ := HX36.out.cells
    obtain ⟨t1, t2, t3⟩ := HX36.out.thaw
    obtain ⟨e1, e2, e3⟩ := HX16.out.cells
    go_region_law (refine step_appSl wc_len wc_one (by decide) rfl _ _ 23 rfl (N3 + 1) 40 _ (by rfl) 16 Tryz.underlying23 infoWay _ [] (by simp [Act.eval, Act.put]) HNil.out ⟨bk, off, none⟩ i cc (c.take i) (by simp [Act.eval, Act.put]) HS6.out (by have := HL2.out; have := HHi.out; rw [HLt.out]; unfold maxLen; simp; omega) (by have := HL2.out; have := HHi.out; rw [HLt.out]; simp; omega) HSd.out ?_; intro v7 w7 ho7 hk7; rw [List.nil_append] at ho7; obtain ⟨x7, y7, hv7⟩ := ho7.slice; rw [HLt.out] at hv7; subst hv7; have HX37 := Lib.hid ((hk7.below N3 (by omega)).trans HX3d.out); have HX27 := Lib.hid ((hk7.below N2 (by have := HNN.out; omega)).trans HX2d.out); have HX17 := Lib.hid ((hk7.below N (by have := HNN.out; omega)).trans HX1d.out); have HO17 := Lib.hid (HO1d.out.keptOther hk7 HTy.out.2); have HO27 := Lib.hid ho7; have HBk7 := Lib.hid (show (Value.slice x7 i y7).ownBlock ≠ some N3 from fun e => by have := (ho7.blk N3 e).1; omega); have HBW7 := Lib.hid (HBWd.out.trans (hk7.toBelow.mono (Nat.le_succ_of_le HNN.out.2.2))); clear ho7 hk7 k1 k2 k3 t1 t2 t3 e1 e2 e3; obtain ⟨k1, k2, k3⟩ := (show FBox w7 N3 n (.slice a1 l.length c1) (.slice none 0 0) from HX37.out).cells; obtain ⟨t1, t2, t3⟩ := (show FBox w7 N3 n (.slice a1 l.length c1) (.slice none 0 0) from HX37.out).thaw)
    all_goals
      have HX38 := Lib.hid (show FBox (w7.setCell ⟨N3, 2, none⟩ (.slice x7 i y7)) N3 n (.slice a1 l.length c1) (.slice x7 i y7) from FBox.set2 HX37.out (.slice x7 i y7))
      have HX28 := Lib.hid (show FBox (w7.setCell ⟨N3, 2, none⟩ (.slice x7 i y7)) N2 0 (.slice none 0 0) (.slice none 0 0) from (heap_setCell_other _ _ _ _ hq23).trans HX27.out)
      have HX18 := Lib.hid (show FBox (w7.setCell ⟨N3, 2, none⟩ (.slice x7 i y7)) N n (.slice al l.length cl) (.slice (some ⟨bk, off, none⟩) c.length cc) from (heap_setCell_other _ _ _ _ hq13).trans HX17.out)
      have HO18 := Lib.hid (HO17.out.setOther HBa.out.2 2 (.slice x7 i y7)); have HO28 := Lib.hid (HO27.out.setOther HBk7.out 2 (.slice x7 i y7))
      have HBW8 := Lib.hid (HBW7.out.setCell (p := ⟨N3, 2, none⟩) HNN.out.2.2 (.slice x7 i y7))
      generalize (w7.setCell ⟨N3, 2, none⟩ (.slice x7 i y7)) = W8 at HX38 HX28 HX18 HO18 HO28 HBW8 ⊢
      clear k1 k2 k3 t1 t2 t3 hic HX37 HX27 HX17 HO17 HO27 HBk7 HBW7 HS6 HX3d HX2d HX1d HO1d HBWd HNil HSd HX36 HX26 HX16 HO16 HBW6
      have hbe := below_drew (Below.refl W8.heap.size W8)
      obtain ⟨A, hA, hA2⟩ : ∃ A : Addr, (if cc = i + 1 then some (⟨bk, off, none⟩ : Addr) else some ⟨bk, off + (i + 1) * 2, none⟩) = some A ∧ (i + 1 < c.length → A = ⟨bk, off + (i + 1) * 2, none⟩) := by
        by_cases hc0 : cc = i + 1
        · exact ⟨⟨bk, off, none⟩, by rw [if_pos hc0], fun hlt => by have := HCc.out; omega⟩
        · exact ⟨⟨bk, off + (i + 1) * 2, none⟩, by rw [if_neg hc0], fun _ => rfl⟩
      have HS8 := Lib.hid (sl_drop (HSc.out.keep (HBW8.out.trans (hbe.mono HBW8.out.size))) (i + 1) HHi.out A (cc - (i + 1)) hA2)
      have HX3e := Lib.hid (HX38.out.keep hbe); have HX2e := Lib.hid (HX28.out.keep hbe); have HX1e := Lib.hid (HX18.out.keep hbe); have HO1e := Lib.hid (HO18.out.below hbe); have HO2e := Lib.hid (HO28.out.below hbe)
      have HBWe := Lib.hid (HBW8.out.trans (hbe.mono HBW8.out.size))
      have HSe : Hid (N3 + 1 ≤ W8.drew.heap.size) := Lib.hid HX3e.out.lt
      have HLd : Hid ((c.drop (i + 1)).length = c.length - (i + 1)) := Lib.hid (List.length_drop ..)
      have hi1 : (0 : Int) ≤ ((i + 1 : Nat) : Int) := by omega
      have hi2 : ((i + 1 : Nat) : Int) ≤ c.length := by omega
      have hi3 : ((i + 1 : Nat) : Int) ≤ cc := by have := HCc.out; omega
      have hcl : (c.length : Int) ≤ cc := by have := HCc.out; omega
      have hwi : IntKind.i64.wrap ((i : Int) + 1) = ((i + 1 : Nat) : Int) := by
        have := HL2.out
        rw [IntKind.wrap_i64]; omega
      have hi4 : (0 : Int) ≤ (i : Int) + 1 := by omega
      have hi5 : (i : Int) + 1 ≤ c.length := by omega
      have hi6 : (i : Int) + 1 ≤ cc := by have := HCc.out; omega
      have hi7 : i + 1 ≤ cc := by have := HCc.out; omega
      clear hbe hA2
      obtain ⟨k1, k2, k3⟩ := HX38.out.cells
      obtain ⟨t1, t2, t3⟩ := HX38.out.thaw
      obtain ⟨e1, e2, e3⟩ := HX18.out.cells
      go_upto_region 7 with fail
      go_region_law (refine step_appSl wc_len wc_one (by decide) rfl _ _ 23 rfl (N3 + 1) 40 _ (by rfl) 16 Tryz.underlying23 infoWay _ (c.take i) (by simp [Act.eval, Act.put]) HO2e.out A (c.length - (i + 1)) (cc - (i + 1)) (c.drop (i + 1)) (by simp [Act.eval, Act.put]) HS8.out (by have := HL2.out; have := HHi.out; rw [HLt.out, HLd.out]; unfold maxLen; omega) (by have := HL2.out; have := HHi.out; rw [HLt.out, HLd.out]; omega) HSe.out ?_; intro v9 w9 ho9 hk9; obtain ⟨x9, y9, hv9⟩ := ho9.slice; obtain ⟨m9, hm9⟩ : ∃ m, (c.take i ++ c.drop (i + 1)).length = m := ⟨_, rfl⟩; rw [hm9] at hv9; subst hv9; clear hm9; have HX39 := Lib.hid ((hk9.below N3 (by omega)).trans HX3e.out); have HX29 := Lib.hid ((hk9.below N2 (by have := HNN.out; omega)).trans HX2e.out); have HO19 := Lib.hid (HO1e.out.keptOther hk9 HTy.out.2); have HO29 := Lib.hid ho9; have HBk9 := Lib.hid (show (Value.slice x9 m9 y9).ownBlock ≠ some N3 from fun e => by have := (ho9.blk N3 e).1; omega); have HBk92 := Lib.hid (show (Value.slice x9 m9 y9).ownBlock ≠ some N2 from fun e => by have := (ho9.blk N2 e).1; have := HNN.out; omega); have HBW9 := Lib.hid (HBWe.out.trans (hk9.toBelow.mono (Nat.le_succ_of_le HNN.out.2.2))); clear ho9 hk9 k1 k2 k3 t1 t2 t3 e1 e2 e3 hA; obtain ⟨k1, k2, k3⟩ := (show FBox w9 N3 n (.slice a1 l.length c1) (.slice x7 i y7) from HX39.out).cells; obtain ⟨t1, t2, t3⟩ := (show FBox w9 N3 n (.slice a1 l.length c1) (.slice x7 i y7) from HX39.out).thaw)
      all_goals
        have HX3a := Lib.hid (show FBox (w9.setCell ⟨N3, 2, none⟩ (.slice x9 m9 y9)) N3 n (.slice a1 l.length c1) (.slice x9 m9 y9) from FBox.set2 HX39.out (.slice x9 m9 y9))
        have HX2a := Lib.hid (show FBox (w9.setCell ⟨N3, 2, none⟩ (.slice x9 m9 y9)) N2 0 (.slice none 0 0) (.slice none 0 0) from (heap_setCell_other _ _ _ _ hq23).trans HX29.out)
        have HO1a := Lib.hid (HO19.out.setOther HBa.out.2 2 (.slice x9 m9 y9)); have HO2a := Lib.hid (HO29.out.setOther HBk9.out 2 (.slice x9 m9 y9))
        have HBWa := Lib.hid (HBW9.out.setCell (p := ⟨N3, 2, none⟩) HNN.out.2.2 (.slice x9 m9 y9))
        generalize (w9.setCell ⟨N3, 2, none⟩ (.slice x9 m9 y9)) = Wa at HX3a HX2a HO1a HO2a HBWa ⊢
        clear k1 k2 k3 t1 t2 t3
        have HF := Lib.hid (HX2a.out.set n (.slice a1 l.length c1) (.slice x9 m9 y9))
        have HOf := Lib.hid (((HO1a.out.setOther HBa.out.1 0 (.int .i64 n)).setOther HBa.out.1 1 (.slice a1 l.length c1)).setOther HBa.out.1 2 (.slice x9 m9 y9))
        have HPf := Lib.hid ((((HO2a.out.setOther HBk92.out 0 (.int .i64 n)).setOther HBk92.out 1 (.slice a1 l.length c1)).setOther HBk92.out 2 (.slice x9 m9 y9)).mono (show w.heap.size ≤ N3 + 1 by have := HN.out; have := HNN.out; omega))
        have HBf := Lib.hid (below_set3 (HB.out.trans (HBWa.out.mono HB.out.size)) (show w.heap.size ≤ N2 by have := HN.out; omega) (.int .i64 n) (.slice a1 l.length c1) (.slice x9 m9 y9))
        obtain ⟨k1, k2, k3⟩ := HX3a.out.cells
        obtain ⟨g1, g2, g3⟩ := HX2a.out.cells
        obtain ⟨f1, f2, f3⟩ := HX2a.out.thaw
        go_wp2
        refine bodyPost_ret (retF2 rfl rfl HF.out) rfl (.inr ⟨i, HIC.out.1, HIC.out.2, ?_⟩)
        exact ⟨_, _, rfl, HOf.out, HPf.out, HBf.out⟩

end Go.Proofs.YtalnmbfmfeaohaaGreat.flight
