/- Frames gone, ways cut. -/
import Derived.Test.YtalnmbfmfeaohaaGreatRows
import Derived.Test.YtalnmbfmfeaohaaGreatFlightDel
import Derived.Test.YtalnmbfmfeaohaaGreatFlightConc
import Derived.Test.YtalnmbfmfeaohaaGreatFlightSort
import Derived.Test.YtalnmbfmfeaohaaGreatFlightComp
import Derived.Test.YtalnmbfmfeaohaaGreatFlightThere
namespace Go.Proofs.YtalnmbfmfeaohaaGreat.flight
open Go.RowKit
open Go.Proofs.YtalnmbfmfeaohaaGreat.kit Go.Proofs.YtalnmbfmfeaohaaGreat.own
set_option linter.unusedVariables false

/-- What the machine bears of a flight: its numbers are 64 bits, its rows are not too long. -/
structure Flt.Fits (f : Flt) : Prop where
  num : ∀ x ∈ f.list, Frm.Ok x
  way : ∀ y ∈ f.cut, Wy.Ok y
  len : f.list.length * 40 ≤ 140737488355328
  clen : f.cut.length * 16 ≤ 140737488355328
theorem Own.setOther {α : Type} {enc : α → List Value} {k e B : Nat} {W : World} {v : Value} {xs : List α} (h : Own enc k e W B v xs) {N : Nat} (hN : v.ownBlock ≠ some N) (o : Nat) (u : Value) : Own enc k e (W.setCell ⟨N, o, none⟩ u) B v xs := by
  obtain ⟨h1, h2⟩ := id h
  refine ⟨h1, ?_⟩
  rcases h2 with ⟨rfl, h0⟩ | ⟨g, cap, cur, rfl, hB, hg, hr⟩
  · exact .inl ⟨rfl, h0⟩
  · have hne : g ≠ N := fun e => hN (by rw [e]; rfl)
    exact .inr ⟨g, cap, cur, rfl, hB, (heap_setCell_other _ _ _ _ hne).trans hg, hr⟩
theorem Own.grown {α : Type} {enc : α → List Value} {k e B : Nat} {W W' : World} {v : Value} {xs : List α} (h : Own enc k e W B v xs) {row : Option Nat} (hg : W.grownBy W' row) (hne : v.ownBlock = none ∨ v.ownBlock ≠ row) : Own enc k e W' B v xs := World.ownsRow.kept h hg hne
theorem Own.blk {α : Type} {enc : α → List Value} {k e B : Nat} {W : World} {v : Value} {xs : List α} (h : Own enc k e W B v xs) : ∀ g, v.ownBlock = some g → B ≤ g ∧ g < W.heap.size := World.ownsRow.lt h
theorem HDisj {B B' : Nat} {W : World} {v v' : Value} {xs : List Frm} {ys : List Wy} (h : Own fc 4 38 W B v xs) (h' : Own wc 2 40 W B' v' ys) : v'.ownBlock = none ∨ v'.ownBlock ≠ v.ownBlock := by
  rcases h'.2 with ⟨rfl, _⟩ | ⟨g', cap', cur', rfl, hB', hg', _⟩
  · exact .inl rfl
  · refine .inr ?_
    rcases h.2 with ⟨rfl, _⟩ | ⟨g, cap, cur, rfl, hB, hg, _⟩
    · intro e; cases e
    · intro e
      have e' : g' = g := by simpa [Value.ownBlock] using e
      subst e'
      rw [hg] at hg'
      simp at hg'
/-- A flight and a number are handed back, the rows the call's own. -/
def TwoS (w : World) (f : Flt) (n : Int) (e : Ending) (w' : World) : Prop := ∃ vl vc, e = .returned (.tuple #[.agg #[.int .i64 f.next, vl, vc], .int .i64 n]) ∧ Own fc 4 38 w' w.heap.size vl f.list ∧ Own wc 2 40 w' w.heap.size vc f.cut ∧ Below w.heap.size w w'

set_option maxHeartbeats 8000000 in
set_option maxRecDepth 100000 in
theorem without_any (v fv : Value) (f : Flt) (p : Frm → Bool) (w : World) (h : FlR w v f) (hf : f.Fits) (hm : Meant w fv p) :
    Calls Tryz.prog 46 #[v, fv] w (TwoS w ⟨f.next, f.list.filter (fun x => !p x), f.cut⟩ ((f.list.length : Int) - (f.list.filter (fun x => !p x)).length)) := by
  have hfl := hf.len
  obtain ⟨vl, vc, rfl, hl, hc⟩ := id h
  obtain ⟨gm, lbm, rfl, -⟩ := id hm
  have hb1 := below_new w (.cells #[.int .i64 f.next, vl, vc] 25)
  have hb2 := below_new (w.alloc (.cells #[.int .i64 f.next, vl, vc] 25)) (.cells #[.int .i64 0, .slice none 0 0, .slice none 0 0] 25)
  have hx1 := (fbox_new w f.next vl vc).keep hb2
  have hx2 := fbox_new (w.alloc (.cells #[.int .i64 f.next, vl, vc] 25)) 0 (.slice none 0 0) (.slice none 0 0)
  rw [World.size_alloc] at hx2
  have hb := hb1.trans (hb2.mono (by simp))
  have HFl := Lib.hid (h.keep hb); have HS1 := Lib.hid (hl.keep hb)
  have HX1 := Lib.hid hx1; have HX2 := Lib.hid hx2; have HB := Lib.hid hb; have HFt := Lib.hid hf; have HM := Lib.hid hm
  obtain ⟨al, cl, rfl⟩ := hl.slice
  have hnl : f.list.length ≤ 9223372036854775807 := hl.1
  obtain ⟨n, l, c⟩ := f
  simp only at HS1 HX1 HX2 HB HFl HFt hnl hfl ⊢
  clear hl hc hb1 hb2 hx1 hx2 hb h hf hm
  go_enter Tryz.func46, Tryz.ntmps46
  go_upto_region 1 with fail
  generalize (w.alloc (.cells #[.int .i64 n, _, _] 25)).alloc _ = W at HFl HS1 HX1 HX2 HB ⊢
  generalize hN2 : w.heap.size + 1 = N2 at HX2 ⊢
  obtain ⟨N, hN⟩ : ∃ N, w.heap.size = N := ⟨_, rfl⟩
  rw [hN] at HX1 ⊢
  have HN := Lib.hid (And.intro hN hN2)
  clear hN hN2
  obtain ⟨e1, e2, e3⟩ := HX1.out.cells
  go_wp2_with fail
  refine (copied_any _ ⟨n, l, c⟩ W HFl.out HFt.out.len HFt.out.clen).mono ?_
  rintro e w1 ⟨vl1, vc1, rfl, ho1, ho2, hb1⟩
  simp only at ho1 ho2 ⊢
  obtain ⟨a1, c1, rfl⟩ := ho1.slice
  obtain ⟨a2, c2, rfl⟩ := ho2.slice
  have hb3 := below_new w1 (.cells #[.int .i64 n, .slice a1 l.length c1, .slice a2 c.length c2] 25)
  have HX3 := Lib.hid (fbox_new w1 n (.slice a1 l.length c1) (.slice a2 c.length c2))
  have HX1' := Lib.hid ((HX1.out.keep hb1).keep hb3); have HX2' := Lib.hid ((HX2.out.keep hb1).keep hb3)
  have HS1' := Lib.hid ((HS1.out.keep hb1).keep hb3)
  have HO1 := Lib.hid (ho1.below hb3); have HO2 := Lib.hid (ho2.below hb3)
  have HBlk1 := Lib.hid ho1.blk; have HBlk2 := Lib.hid ho2.blk
  have HB3 := Lib.hid (HB.out.trans ((hb1.trans (hb3.mono hb1.size)).mono HB.out.size))
  have HSz := Lib.hid hb1.size
  have HDj : Hid ((Value.slice a2 c.length c2).ownBlock = none ∨ (Value.slice a2 c.length c2).ownBlock ≠ (Value.slice a1 l.length c1).ownBlock) := HDisj ho1 ho2
  clear ho1 ho2 hb1 hb3 e1 e2 e3
  go_upto_region 2 with fail
  generalize (w1.alloc (.cells #[.int .i64 n, .slice a1 l.length c1, .slice a2 c.length c2] 25)) = W1 at HX3 HX1' HX2' HS1' HO1 HO2 HB3 ⊢
  generalize hN3 : w1.heap.size = N3 at HX3 HBlk1 HBlk2 HSz ⊢
  clear hN3
  obtain ⟨e1, e2, e3⟩ := HX3.out.cells
  go_wp2_with fail
  refine (delF_any w W1 _ _ l p HB3.out (HO1.out.mono HB.out.size) HFt.out.num HM.out).mono ?_
  rintro e w2 ⟨v3, rfl, ho3, hg3, hbk3⟩
  obtain ⟨a3, c3, rfl⟩ := ho3.slice
  have hne3 : some N3 ≠ (Value.slice a1 l.length c1).ownBlock := fun e => by have := HBlk1.out N3 e.symm; omega
  have hneN : some N ≠ (Value.slice a1 l.length c1).ownBlock := fun e => by have := HBlk1.out N e.symm; have := HX1.out.lt; omega
  have hneN2 : some N2 ≠ (Value.slice a1 l.length c1).ownBlock := fun e => by have := HBlk1.out N2 e.symm; have := HX2.out.lt; omega
  have HX32 := Lib.hid (show FBox w2 N3 n (.slice a1 l.length c1) (.slice a2 c.length c2) from (hg3.block _ HX3.out.lt hne3).trans HX3.out)
  have HX12 := Lib.hid (show FBox w2 N n (.slice al l.length cl) vc from (hg3.block _ HX1'.out.lt hneN).trans HX1'.out)
  have HX22 := Lib.hid (show FBox w2 N2 0 (.slice none 0 0) (.slice none 0 0) from (hg3.block _ HX2'.out.lt hneN2).trans HX2'.out)
  have HO3 := Lib.hid ho3
  have HO2' := Lib.hid ((HO2.out.mono HB.out.size).grown hg3 HDj.out)
  have HBk3 := Lib.hid (show (Value.slice a3 (l.filter fun x => !p x).length c3).ownBlock ≠ some N3 from fun e => hne3 (by rw [← hbk3, e]))
  have HBk2 := Lib.hid (show (Value.slice a2 c.length c2).ownBlock ≠ some N3 from fun e => by have := HBlk2.out N3 e; omega)
  have HBk3' := Lib.hid (show (Value.slice a3 (l.filter fun x => !p x).length c3).ownBlock ≠ some N2 from fun e => hneN2 (by rw [← hbk3, e]))
  have HBk2' := Lib.hid (show (Value.slice a2 c.length c2).ownBlock ≠ some N2 from fun e => by have := HBlk2.out N2 e; have := HX2.out.lt; omega)
  have HB2 := Lib.hid (show Below w.heap.size w w2 from HB3.out.grown hg3 HB3.out.size (fun k e => Nat.le_trans HB.out.size (HBlk1.out k e).1))
  have hlN3 : N < N3 ∧ N2 < N3 := ⟨by have := HX1.out.lt; have := HSz.out; omega, by have := HX2.out.lt; have := HSz.out; omega⟩
  have HLt := Lib.hid hlN3
  clear e1 e2 e3 ho3 hg3 hbk3 hne3 hneN hneN2 hlN3 HX3 HX1' HX2' HO1 HO2 HDj HBlk1 HBlk2
  obtain ⟨e1, e2, e3⟩ := HX32.out.cells
  obtain ⟨f1, f2, f3⟩ := HX32.out.thaw
  go_upto_region 3 with fail
  obtain ⟨m, hm⟩ : ∃ m, (l.filter fun x => !p x).length = m := ⟨_, rfl⟩
  have hml : m ≤ l.length := by rw [← hm]; exact List.length_filter_le ..
  have HMl := Lib.hid hm
  simp only [hm] at HO3 HBk3 HBk3' ⊢
  have hX3 : FBox (w2.setCell ⟨N3, 1, none⟩ (.slice a3 m c3)) N3 n (.slice a3 m c3) (.slice a2 c.length c2) := heap_setCell_same w2 N3 1 _ _ _ HX32.out
  have hX1 : FBox (w2.setCell ⟨N3, 1, none⟩ (.slice a3 m c3)) N n (.slice al l.length cl) vc := (heap_setCell_other _ _ _ _ (by show N ≠ N3; have := HLt.out; omega)).trans HX12.out
  have hX2 : FBox (w2.setCell ⟨N3, 1, none⟩ (.slice a3 m c3)) N2 0 (.slice none 0 0) (.slice none 0 0) := (heap_setCell_other _ _ _ _ (by show N2 ≠ N3; have := HLt.out; omega)).trans HX22.out
  have HX33 := Lib.hid hX3; have HX13 := Lib.hid hX1; have HX23 := Lib.hid hX2
  have HO33 := Lib.hid (HO3.out.setOther HBk3.out 1 (.slice a3 m c3))
  have HO23 := Lib.hid (HO2'.out.setOther HBk2.out 1 (.slice a3 m c3))
  have HB33 := Lib.hid (HB2.out.setCell (p := ⟨N3, 1, none⟩) (show w.heap.size ≤ N3 by have := HLt.out; have := HN.out; omega) (.slice a3 m c3))
  clear hX3 hX1 hX2 e1 e2 e3 f1 f2 f3 hm HX32 HX12 HX22 HO3 HO2' HB2 HBk3 HBk2
  generalize (w2.setCell ⟨N3, 1, none⟩ (.slice a3 m c3)) = W3 at HX33 HX13 HX23 HO33 HO23 HB33 ⊢
  obtain ⟨e1, e2, e3⟩ := HX33.out.cells
  obtain ⟨-, g2, -⟩ := HX13.out.cells
  obtain ⟨k1, k2, k3⟩ := HX23.out.cells
  obtain ⟨f1, f2, f3⟩ := HX23.out.thaw
  have q1 : ¬ N = N2 := by have := HN.out; omega
  have q2 : ¬ N2 = N := by omega
  have q3 : ¬ N3 = N2 := by have := HLt.out; omega
  have q4 : ¬ N2 = N3 := by omega
  have hwr : IntKind.i64.wrap ((l.length : Int) - m) = (l.length : Int) - m := by rw [IntKind.wrap_i64]; omega
  go_region_with fail
  all_goals
    have hF := HX23.out.set n (.slice a3 m c3) (.slice a2 c.length c2)
    have hO1 := ((HO33.out.setOther HBk3'.out 0 (.int .i64 n)).setOther HBk3'.out 1 (.slice a3 m c3)).setOther HBk3'.out 2 (.slice a2 c.length c2)
    have hO2 := ((HO23.out.setOther HBk2'.out 0 (.int .i64 n)).setOther HBk2'.out 1 (.slice a3 m c3)).setOther HBk2'.out 2 (.slice a2 c.length c2)
    have hB := below_set3 HB33.out (show w.heap.size ≤ N2 by have := HN.out; omega) (.int .i64 n) (.slice a3 m c3) (.slice a2 c.length c2)
    generalize (((W3.setCell ⟨N2, 0, none⟩ (.int .i64 n)).setCell ⟨N2, 1, none⟩ (.slice a3 m c3)).setCell ⟨N2, 2, none⟩ (.slice a2 c.length c2)) = W4 at hF hO1 hO2 hB ⊢
    have hd : Below W4.heap.size W4 W4.drew := ⟨rfl, rfl, rfl, Nat.le_refl _, fun _ _ => rfl⟩
    have HF := Lib.hid (hF.keep hd); have HO1 := Lib.hid (hO1.below hd); have HO2 := Lib.hid (hO2.below hd); have HB4 := Lib.hid (below_drew hB)
    clear hF hO1 hO2 hB hd e1 e2 e3 g2 k1 k2 k3 f1 f2 f3
    generalize W4.drew = W5 at HF HO1 HO2 HB4 ⊢
    go_wp2
    refine bodyPost_ret (retF2 rfl rfl HF.out) rfl ?_
    refine ⟨_, _, ?_, HO1.out, HO2.out, HB4.out⟩
    rw [HMl.out]
    rfl

end Go.Proofs.YtalnmbfmfeaohaaGreat.flight
