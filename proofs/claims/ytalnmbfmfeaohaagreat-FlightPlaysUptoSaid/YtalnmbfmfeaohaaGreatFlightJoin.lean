/- Join: a way is joined again. -/
import Derived.Test.YtalnmbfmfeaohaaGreatRows
import Derived.Test.YtalnmbfmfeaohaaGreatFlightDelAt
import Derived.Test.YtalnmbfmfeaohaaGreatFlightSev
namespace Go.Proofs.YtalnmbfmfeaohaaGreat.flight
open Go.RowKit
open Go.Proofs.YtalnmbfmfeaohaaGreat.kit Go.Proofs.YtalnmbfmfeaohaaGreat.own
set_option linter.unusedVariables false

theorem erase_filter {α : Type} [DecidableEq α] : ∀ (l : List α) (i : Nat) (hi : i < l.length), l.Pairwise (· ≠ ·) → l.eraseIdx i = l.filter (fun y => !decide (y = l[i]))
  | x :: r, 0, _, h => by
    have hx := (List.pairwise_cons.1 h).1
    simp only [List.eraseIdx_cons_zero, List.getElem_cons_zero]
    rw [List.filter_cons, if_neg (by simp)]
    exact (List.filter_eq_self.2 (fun y hy => by simpa using (hx y hy).symm)).symm
  | x :: r, i + 1, hi, h => by
    have hi' : i < r.length := by simpa using hi
    have hx := (List.pairwise_cons.1 h).1 r[i] (List.getElem_mem hi')
    simp only [List.eraseIdx_cons_succ, List.getElem_cons_succ]
    rw [List.filter_cons, if_pos (by simpa using hx), erase_filter r i hi' (List.pairwise_cons.1 h).2]
/-- What Join tells. -/
def joinE (f : Flt) (y : Wy) : Flt := ⟨f.next, f.list, f.cut.filter fun z => !decide (z = y)⟩
/-- A flight and a bool are handed back, the rows the call's own. -/
def TwoB (w : World) (f : Flt) (b : Bool) (e : Ending) (w' : World) : Prop := ∃ vl vc, e = .returned (.tuple #[.agg #[.int .i64 f.next, vl, vc], .bool b]) ∧ Own fc 4 38 w' w.heap.size vl f.list ∧ Own wc 2 40 w' w.heap.size vc f.cut ∧ Below w.heap.size w w'

set_option maxHeartbeats 8000000 in
set_option maxRecDepth 100000 in
theorem Join_any (v : Value) (f : Flt) (a b : Int) (w : World) (h : FlR w v f) (hf : f.Fits) (hx : Wy.Ok (a, b)) (hnd : f.cut.Pairwise (· ≠ ·)) :
    Calls Tryz.prog 22 #[v, .int .i64 a, .int .i64 b] w (TwoB w (joinE f (a, b)) (decide ((a, b) ∈ f.cut))) := by
  have hfl := hf.clen
  obtain ⟨vl, vc, rfl, hl, hc⟩ := id h
  have hb1 := below_new w (.cells #[.int .i64 f.next, vl, vc] 25)
  have hb2 := below_new (w.alloc (.cells #[.int .i64 f.next, vl, vc] 25)) (.cells #[.int .i64 0, .slice none 0 0, .slice none 0 0] 25)
  have hx1 := (fbox_new w f.next vl vc).keep hb2
  have hx2 := fbox_new (w.alloc (.cells #[.int .i64 f.next, vl, vc] 25)) 0 (.slice none 0 0) (.slice none 0 0)
  rw [World.size_alloc] at hx2
  have hb := hb1.trans (hb2.mono (by simp))
  have HFl := Lib.hid (h.keep hb); have HS1 := Lib.hid (hc.keep hb)
  have HX1 := Lib.hid hx1; have HX2 := Lib.hid hx2; have HB := Lib.hid hb; have HFt := Lib.hid hf; have HXo := Lib.hid hx; have HNd := Lib.hid hnd
  obtain ⟨n, l, c⟩ := f
  simp only at HS1 HX1 HX2 HB HFl HFt HNd hfl ⊢
  have HCl := Lib.hid hfl
  clear hl hc hb1 hb2 hx1 hx2 hb h hf hx hnd hfl
  go_enter Tryz.func22, Tryz.ntmps22
  go_upto_region 1 with fail
  generalize (w.alloc (.cells #[.int .i64 n, _, _] 25)).alloc _ = W at HFl HS1 HX1 HX2 HB ⊢
  generalize hN2 : w.heap.size + 1 = N2 at HX2 ⊢
  obtain ⟨N, hN⟩ : ∃ N, w.heap.size = N := ⟨_, rfl⟩
  rw [hN] at HX1 ⊢
  have HN := Lib.hid (And.intro hN hN2)
  clear hN hN2
  obtain ⟨e1, e2, e3⟩ := HX1.out.cells
  go_wp2_with fail
  refine (copied_any _ ⟨n, l, c⟩ W HFl.out HFt.out.len HFt.out.clen).mono ?_
  rintro e w1 ⟨vl1, vc1, rfl, ho1, ho2, hb1⟩
  simp only at ho1 ho2 ⊢
  obtain ⟨a1, c1, rfl⟩ := ho1.slice
  obtain ⟨a2, c2, rfl⟩ := ho2.slice
  have hb3 := below_new w1 (.cells #[.int .i64 n, .slice a1 l.length c1, .slice a2 c.length c2] 25)
  have HX3 := Lib.hid (fbox_new w1 n (.slice a1 l.length c1) (.slice a2 c.length c2))
  have HX1' := Lib.hid ((HX1.out.keep hb1).keep hb3); have HX2' := Lib.hid ((HX2.out.keep hb1).keep hb3)
  have HS1' := Lib.hid ((HS1.out.keep hb1).keep hb3)
  have HO1 := Lib.hid (ho1.below hb3); have HO2 := Lib.hid (ho2.below hb3)
  have HBlk1 := Lib.hid ho1.blk; have HBlk2 := Lib.hid ho2.blk
  have HB3 := Lib.hid (HB.out.trans ((hb1.trans (hb3.mono hb1.size)).mono HB.out.size))
  have HSz := Lib.hid hb1.size
  have HDj : Hid ((Value.slice a2 c.length c2).ownBlock = none ∨ (Value.slice a2 c.length c2).ownBlock ≠ (Value.slice a1 l.length c1).ownBlock) := HDisj ho1 ho2
  clear ho1 ho2 hb1 hb3 e1 e2 e3
  go_upto_region 2 with fail
  generalize (w1.alloc (.cells #[.int .i64 n, .slice a1 l.length c1, .slice a2 c.length c2] 25)) = W1 at HX3 HX1' HX2' HS1' HO1 HO2 HB3 ⊢
  generalize hN3 : w1.heap.size = N3 at HX3 HBlk1 HBlk2 HSz ⊢
  clear hN3
  obtain ⟨e1, e2, e3⟩ := HX1'.out.cells
  go_wp2_with fail
  refine (placesOf_any _ c W1 HS1'.out HFt.out.way (by have := HCl.out; unfold maxLen; omega)).mono ?_
  rintro e w2 ⟨pb, rfl, hp, hb2⟩
  obtain ⟨cc, hcc, hlk⟩ := look_places hp HFt.out.way (a, b) HXo.out
  have hl3 := hlk w2 (Below.refl _ _)
  have HCc := Lib.hid hcc
  have HX32 := Lib.hid (HX3.out.keep hb2); have HX22 := Lib.hid (HX2'.out.keep hb2)
  have HO12 := Lib.hid (HO1.out.below hb2); have HO22 := Lib.hid (HO2.out.below hb2)
  have HB2 := Lib.hid (HB3.out.trans (hb2.mono HB3.out.size))
  have HLt2 := Lib.hid (Nat.lt_of_lt_of_le HX3.out.lt hb2.size)
  have hlN3 : N < N3 ∧ N2 < N3 := ⟨by have := HX1.out.lt; have := HSz.out; omega, by have := HX2.out.lt; have := HSz.out; omega⟩
  have HLt := Lib.hid hlN3
  clear hb2 hp hlk hcc hlN3 e1 e2 e3 HX1' HX2' HX3 HO1 HO2 HB3
  by_cases hin : (a, b) ∈ c
  · obtain ⟨i, hi, hxi⟩ := List.getElem_of_mem hin
    have hci : cc = (i : Int) := by
      have h1 := at_pm c HFt.out.way HNd.out i hi (.lit (.int .i64 0))
      rw [hxi, HCc.out] at h1
      cases h1; rfl
    subst hci
    have HEr := Lib.hid (erase_filter c i hi HNd.out)
    rw [hxi] at HEr
    rw [decide_eq_true hin] at hl3 ⊢
    have HHi := Lib.hid hi
    have hiI : (i : Int) < c.length := by omega
    have hwi : IntKind.i64.wrap ((i : Int) + 1) = ((i + 1 : Nat) : Int) := by rw [IntKind.wrap_i64]; have := HCl.out; omega
    rcases HO22.out.at with ⟨-, h0⟩ | ⟨g2, cap2, hv2, hB2', hat2⟩
    · exfalso; rw [h0] at hi; simp at hi
    obtain ⟨rfl, rfl⟩ : a2 = some ⟨g2, 0, none⟩ ∧ c2 = cap2 := by cases hv2; exact ⟨rfl, rfl⟩
    have HAt2 := Lib.hid hat2
    have HIn := Lib.hid hin
    have hgN := HBlk2.out g2 rfl
    have HGN := Lib.hid hgN
    have hdel : Calls Tryz.prog 45 #[.slice (some ⟨g2, 0, none⟩) c.length c2, .int .i64 i, .int .i64 ((i : Int) + 1)] w2 fun e w' => e = .returned (.slice (some ⟨g2, 0, none⟩) (c.eraseIdx i).length c2) ∧ OwnAt wc 2 40 w' g2 c2 (c.eraseIdx i) ∧ w2.grownBy w' (some g2) :=
      del1W_any g2 c2 c i HHi.out w2 HAt2.out
    rw [HEr.out] at hdel
    have HDel := Lib.hid hdel
    obtain ⟨r, hr⟩ : ∃ r, c.filter (fun y => !decide (y = (a, b))) = r := ⟨_, rfl⟩
    rw [hr] at HDel
    have HR := Lib.hid hr
    have hbw : Below W.heap.size W w2 → True := fun _ => trivial
    clear hv2 hB2' hat2 hxi hin hi hgN hdel hr hbw
    obtain ⟨e1, e2, e3⟩ := HX32.out.cells
    obtain ⟨f1, f2, f3⟩ := HX32.out.thaw
    go_upto_region 4 with fail
    go_wp2_with fail
    refine HDel.out.mono ?_
    rintro e w3 ⟨rfl, hat3, hg3⟩
    have hne3 : some N3 ≠ some g2 := fun e => by have := HGN.out; cases e; omega
    have hneN2 : some N2 ≠ some g2 := fun e => by have := HGN.out; have := HX2.out.lt; cases e; omega
    have HX33 := Lib.hid (show FBox w3 N3 n (.slice a1 l.length c1) (.slice (some ⟨g2, 0, none⟩) c.length c2) from (hg3.block _ HX32.out.lt hne3).trans HX32.out)
    have HX23 := Lib.hid (show FBox w3 N2 0 (.slice none 0 0) (.slice none 0 0) from (hg3.block _ HX22.out.lt hneN2).trans HX22.out)
    have hdj : (Value.slice a1 l.length c1).ownBlock = none ∨ (Value.slice a1 l.length c1).ownBlock ≠ some g2 := by
      rcases h1 : (Value.slice a1 l.length c1).ownBlock with _ | k
      · exact .inl rfl
      · refine .inr fun e => ?_
        rcases HDj.out with h | h
        · cases h
        · rw [h1] at h; exact h e.symm
    have HO13 := Lib.hid ((HO12.out.mono HB.out.size).grown hg3 hdj)
    have HO23 := Lib.hid ((hat3.own wc_len (show W.heap.size ≤ g2 from HGN.out.1)).mono HB.out.size)
    have HB33 := Lib.hid (show Below w.heap.size w w3 from HB2.out.grown hg3 HB2.out.size (fun k e => by cases e; exact Nat.le_trans HB.out.size HGN.out.1))
    have HBa := Lib.hid (show (Value.slice a1 l.length c1).ownBlock ≠ some N3 ∧ (Value.slice a1 l.length c1).ownBlock ≠ some N2 from ⟨fun e => by have := HBlk1.out N3 e; omega, fun e => by have := HBlk1.out N2 e; have := HX2.out.lt; omega⟩)
    have HBb := Lib.hid (show (Value.slice (some ⟨g2, 0, none⟩) r.length c2).ownBlock ≠ some N3 ∧ (Value.slice (some ⟨g2, 0, none⟩) r.length c2).ownBlock ≠ some N2 from ⟨fun e => hne3 e.symm, fun e => hneN2 e.symm⟩)
    clear e1 e2 e3 f1 f2 f3 hat3 hg3 hne3 hneN2 hdj hl3 hwi hiI
    obtain ⟨e1, e2, e3⟩ := HX33.out.cells
    obtain ⟨f1, f2, f3⟩ := HX33.out.thaw
    go_upto_region 5 with fail
    have HX34 := Lib.hid (show FBox (w3.setCell ⟨N3, 2, none⟩ (.slice (some ⟨g2, 0, none⟩) r.length c2)) N3 n (.slice a1 l.length c1) (.slice (some ⟨g2, 0, none⟩) r.length c2) from heap_setCell_same w3 N3 2 _ _ _ HX33.out)
    have HX24 := Lib.hid (show FBox (w3.setCell ⟨N3, 2, none⟩ (.slice (some ⟨g2, 0, none⟩) r.length c2)) N2 0 (.slice none 0 0) (.slice none 0 0) from (heap_setCell_other _ _ _ _ (by show N2 ≠ N3; have := HLt.out; omega)).trans HX23.out)
    have HO14 := Lib.hid (HO13.out.setOther HBa.out.1 2 (.slice (some ⟨g2, 0, none⟩) r.length c2))
    have HO24 := Lib.hid (HO23.out.setOther HBb.out.1 2 (.slice (some ⟨g2, 0, none⟩) r.length c2))
    have HB4 := Lib.hid (HB33.out.setCell (p := ⟨N3, 2, none⟩) (show w.heap.size ≤ N3 by have := HLt.out; have := HN.out; omega) (.slice (some ⟨g2, 0, none⟩) r.length c2))
    clear e1 e2 e3 f1 f2 f3
    generalize (w3.setCell ⟨N3, 2, none⟩ (.slice (some ⟨g2, 0, none⟩) r.length c2)) = W4 at HX34 HX24 HO14 HO24 HB4 ⊢
    obtain ⟨e1, e2, e3⟩ := HX34.out.cells
    obtain ⟨k1, k2, k3⟩ := HX24.out.cells
    obtain ⟨f1, f2, f3⟩ := HX24.out.thaw
    go_wp2
    have hF := HX24.out.set n (.slice a1 l.length c1) (.slice (some ⟨g2, 0, none⟩) r.length c2)
    have hO1 := ((HO14.out.setOther HBa.out.2 0 (.int .i64 n)).setOther HBa.out.2 1 (.slice a1 l.length c1)).setOther HBa.out.2 2 (.slice (some ⟨g2, 0, none⟩) r.length c2)
    have hO2 := ((HO24.out.setOther HBb.out.2 0 (.int .i64 n)).setOther HBb.out.2 1 (.slice a1 l.length c1)).setOther HBb.out.2 2 (.slice (some ⟨g2, 0, none⟩) r.length c2)
    have hB := below_set3 HB4.out (show w.heap.size ≤ N2 by have := HN.out; omega) (.int .i64 n) (.slice a1 l.length c1) (.slice (some ⟨g2, 0, none⟩) r.length c2)
    refine bodyPost_ret (retF2 rfl rfl hF) rfl ?_
    unfold TwoB joinE
    simp only
    rw [HR.out, decide_eq_true HIn.out]
    exact ⟨_, _, rfl, hO1, hO2, hB⟩
  · have HIn := Lib.hid hin
    have HEr : Hid (c.filter (fun y => !decide (y = (a, b))) = c) := Lib.hid (List.filter_eq_self.2 (fun y hy => by
      have : y ≠ (a, b) := fun e => hin (by rw [← e]; exact hy)
      simp [this]))
    rw [decide_eq_false hin] at hl3
    have HBa := Lib.hid (show (Value.slice a1 l.length c1).ownBlock ≠ some N2 from fun e => by have := HBlk1.out N2 e; have := HX2.out.lt; omega)
    have HBb := Lib.hid (show (Value.slice a2 c.length c2).ownBlock ≠ some N2 from fun e => by have := HBlk2.out N2 e; have := HX2.out.lt; omega)
    clear hin
    go_upto_region 5 with fail
    clear hl3
    obtain ⟨e1, e2, e3⟩ := HX32.out.cells
    obtain ⟨k1, k2, k3⟩ := HX22.out.cells
    obtain ⟨f1, f2, f3⟩ := HX22.out.thaw
    go_wp2
    have hF := HX22.out.set n (.slice a1 l.length c1) (.slice a2 c.length c2)
    have hO1 := (((HO12.out.mono HB.out.size).setOther HBa.out 0 (.int .i64 n)).setOther HBa.out 1 (.slice a1 l.length c1)).setOther HBa.out 2 (.slice a2 c.length c2)
    have hO2 := (((HO22.out.mono HB.out.size).setOther HBb.out 0 (.int .i64 n)).setOther HBb.out 1 (.slice a1 l.length c1)).setOther HBb.out 2 (.slice a2 c.length c2)
    have hB := below_set3 HB2.out (show w.heap.size ≤ N2 by have := HN.out; omega) (.int .i64 n) (.slice a1 l.length c1) (.slice a2 c.length c2)
    refine bodyPost_ret (retF2 rfl rfl hF) rfl ?_
    unfold TwoB joinE
    simp only
    rw [HEr.out, decide_eq_false HIn.out]
    exact ⟨_, _, rfl, hO1, hO2, hB⟩

end Go.Proofs.YtalnmbfmfeaohaaGreat.flight
