/- The document's Take. -/
import Derived.Test.YtalnmbfmfeaohaaGreatRows
import Derived.Test.YtalnmbfmfeaohaaGreatFlightRLose
import Derived.Test.YtalnmbfmfeaohaaGreatFlightTake
namespace Go.Proofs.YtalnmbfmfeaohaaGreat.flight
open Go.RowKit
open Go.Proofs.YtalnmbfmfeaohaaGreat.kit Go.Proofs.YtalnmbfmfeaohaaGreat.own
set_option linter.unusedVariables false

/-- The last frame of a number, and whether there is one. -/
def lastF (k : Int) (l : List Frm) : Frm × Int := l.foldl (fun s x => if x.num = k then (x, 0) else s) (zeroFr, 24)
theorem lastF_step (k : Int) (l : List Frm) (i : Nat) (hi : i < l.length) : lastF k (l.take (i + 1)) = if l[i].num = k then (l[i], 0) else lastF k (l.take i) := by
  unfold lastF
  rw [List.take_succ_eq_append_getElem hi, List.foldl_append]
  rfl

set_option maxHeartbeats 16000000 in
set_option maxRecDepth 100000 in
theorem rTake_any (v : Value) (f : Flt) (to : Int) (w : World) (h : FlR w v f) (hl1 : f.list.length * 40 ≤ 140737488355328) (hl2 : f.cut.length * 16 ≤ 140737488355328) :
    Calls Tryz.prog 19 #[v, .int .i64 to] w (TakeS w (⟨f.next, f.list.filter (fun x => !(x.num == to)), f.cut⟩, lastF to f.list)) := by
  obtain ⟨vl, vc, rfl, hl, hc⟩ := h
  have hb1 := below_new w (.cells #[.int .i64 f.next, vl, vc] 25)
  have hb2 := below_new (w.alloc (.cells #[.int .i64 f.next, vl, vc] 25)) (.cells #[.int .i64 0, .slice none 0 0, .slice none 0 0] 25)
  have hb3 := below_new ((w.alloc (.cells #[.int .i64 f.next, vl, vc] 25)).alloc (.cells #[.int .i64 0, .slice none 0 0, .slice none 0 0] 25)) (.cells #[.int .i64 0, .int .i64 0, .int .i64 0, .string { data := #[] }] 38)
  have hx1 := ((fbox_new w f.next vl vc).keep hb2).keep hb3
  have hx2 := (fbox_new (w.alloc (.cells #[.int .i64 f.next, vl, vc] 25)) 0 (.slice none 0 0) (.slice none 0 0)).keep hb3
  have hx5 := alloc_at ((w.alloc (.cells #[.int .i64 f.next, vl, vc] 25)).alloc (.cells #[.int .i64 0, .slice none 0 0, .slice none 0 0] 25)) (.cells #[.int .i64 0, .int .i64 0, .int .i64 0, .string { data := #[] }] 38)
  simp only [World.size_alloc] at hx2 hx5
  have hb := (hb1.trans (hb2.mono (by simp))).trans (hb3.mono (by simp; omega))
  have HS0 := Lib.hid hl; have HS2 := Lib.hid (hc.keep hb)
  have HX1 := Lib.hid hx1; have HX2 := Lib.hid hx2; have HX5 := Lib.hid hx5; have HB := Lib.hid hb
  have HL1 := Lib.hid hl1; have HL2 := Lib.hid hl2
  obtain ⟨al, cl, hvl⟩ := hl.slice
  subst hvl
  obtain ⟨n, l, c⟩ := f
  simp only at HS0 HS2 HX1 HX2 HB HL1 HL2 ⊢
  obtain ⟨L, hL⟩ : ∃ L, l.length = L := ⟨_, rfl⟩
  have HL := Lib.hid hL
  simp only [hL] at HS0 HS2 HX1 HX2 HX5 HB HL1 ⊢
  have hL63 : L ≤ 4000000000000 := by have := HL1.out; omega
  clear hl hc hb1 hb2 hb3 hx1 hx2 hx5 hb hl1 hl2 hL
  go_enter Tryz.func19, Tryz.ntmps19
  go_upto_region 1 with fail
  simp only [Nat.add_assoc, Nat.reduceAdd] at HX5 ⊢
  generalize ((w.alloc (.cells #[.int .i64 n, _, _] 25)).alloc _).alloc _ = W at HS2 HX1 HX2 HX5 HB ⊢
  generalize hN2 : w.heap.size + 1 = N2 at HX2 ⊢
  generalize hN5 : w.heap.size + 2 = N5 at HX5 ⊢
  obtain ⟨N, hN⟩ : ∃ N, w.heap.size = N := ⟨_, rfl⟩
  rw [hN] at HX1 ⊢
  have HN := Lib.hid (show N2 = N + 1 ∧ N5 = N + 2 ∧ w.heap.size = N from ⟨by omega, by omega, hN⟩)
  clear hN hN2 hN5
  obtain ⟨e1, e2, e3⟩ := HX1.out.cells
  go_upto_region 2 with fail
  have hb3 := below_new W (.cells #[.int .i64 n, .slice none 0 0, .slice none 0 0] 25)
  have HX3 := Lib.hid (fbox_new W n (.slice none 0 0) (.slice none 0 0))
  have HB3 := Lib.hid hb3
  have HZ3 : Hid (W.heap.size < (W.alloc (.cells #[.int .i64 n, .slice none 0 0, .slice none 0 0] 25)).heap.size) := Lib.hid (by simp)
  clear hb3 e1 e2 e3
  generalize (W.alloc (.cells #[.int .i64 n, .slice none 0 0, .slice none 0 0] 25)) = W3 at HX3 HB3 HZ3 ⊢
  obtain ⟨N3, hN3⟩ : ∃ N, W.heap.size = N := ⟨_, rfl⟩
  have HN3 := Lib.hid (show W.heap.size = N3 ∧ N5 < N3 from ⟨hN3, by have := (Array.getElem?_eq_some_iff.1 HX5.out).1; omega⟩)
  rw [hN3] at HX3 HZ3 ⊢
  clear hN3
  obtain ⟨k1, k2, k3⟩ := HX3.out.cells
  obtain ⟨e1, e2, e3⟩ := (HX1.out.keep HB3.out).cells
  have HO := Lib.hid (Own.nil (enc := wc) (k := 2) W3 40 W3.heap.size)
  go_upto_region 3 with (at_builtin; refine appSl wc_len wc_one (by decide) rfl _ _ 23 rfl W3.heap.size 40 _ (by rfl) 16 Tryz.underlying23 infoWay _ [] rfl HO.out _ c rfl (HS2.out.keep HB3.out) (by have := HL2.out; unfold maxLen; simp; omega) (by have := HL2.out; simpa using this) (Nat.le_refl _) ?_; intro v4 w4 ho hk; rw [List.nil_append] at ho; obtain ⟨x4, y4, rfl⟩ := ho.slice; have HO4 := Lib.hid ho; have HK := Lib.hid hk.toBelow; clear ho hk k1 k2 k3 e1 e2 e3; have HX34 := Lib.hid (HX3.out.keep HK.out); obtain ⟨k1, k2, k3⟩ := HX34.out.cells; obtain ⟨f1, f2, f3⟩ := HX34.out.thaw)
  have HX35 := Lib.hid (HX34.out.set2 (.slice x4 c.length y4))
  have HB5 := Lib.hid (HB.out.trans (((HB3.out.trans (HK.out.mono HB3.out.size)).setCell (p := ⟨N3, 2, none⟩) (Nat.le_of_eq HN3.out.1) (.slice x4 c.length y4)).mono HB.out.size))
  have HBW := Lib.hid ((HB3.out.trans (HK.out.mono HB3.out.size)).setCell (p := ⟨N3, 2, none⟩) (Nat.le_of_eq HN3.out.1) (.slice x4 c.length y4))
  have HO5 := Lib.hid ((HO4.out.setOther (N := N3) (fun e => by have := (HO4.out.blk N3 e).1; have := HZ3.out; omega) 2 (.slice x4 c.length y4)).mono (show N3 + 1 ≤ W3.heap.size from HZ3.out))
  clear k1 k2 k3 f1 f2 f3
  generalize (w4.setCell ⟨N3, 2, none⟩ (.slice x4 c.length y4)) = W5 at HX35 HB5 HBW HO5 ⊢
  have HX15 := Lib.hid (HX1.out.keep HBW.out); have HX25 := Lib.hid (HX2.out.keep HBW.out); have HX55 := Lib.hid ((HBW.out.block _ (Array.getElem?_eq_some_iff.1 HX5.out).1).trans HX5.out)
  clear HX34 HO4 HO HB3 HX3 HZ3 HK
  have hbz := below_new W5 (.cells #[.int .i64 0, .int .i64 0, .int .i64 0, .string { data := #[] }] 38)
  have HX16 := Lib.hid (HX15.out.keep hbz); have HX26 := Lib.hid (HX25.out.keep hbz); have HX36 := Lib.hid (HX35.out.keep hbz); have HX56 := Lib.hid ((hbz.block _ (Array.getElem?_eq_some_iff.1 HX55.out).1).trans HX55.out)
  have HX66 := Lib.hid (alloc_at W5 (.cells #[.int .i64 0, .int .i64 0, .int .i64 0, .string { data := #[] }] 38))
  have HO6 := Lib.hid (HO5.out.below hbz); have HB6 := Lib.hid (HB5.out.trans (hbz.mono HB5.out.size))
  have HN6 := Lib.hid HX35.out.lt
  clear hbz
  go_upto_region 4 with fail
  generalize (W5.alloc (.cells #[.int .i64 0, .int .i64 0, .int .i64 0, .string { data := #[] }] 38)) = W6 at HX16 HX26 HX36 HX56 HX66 HO6 HB6 ⊢
  generalize W5.heap.size = N6 at HX66 HN6 ⊢
  clear HX15 HX25 HX35 HX55 HO5 HB5 HBW
  have HNs := Lib.hid (show N2 = N + 1 ∧ N5 = N + 2 ∧ w.heap.size = N ∧ N5 < N3 ∧ N3 < N6 from ⟨HN.out.1, HN.out.2.1, HN.out.2.2, HN3.out.2, HN6.out⟩)
  go_wp2
  go_loopw [9, 10] (fun v9 v10 wr => ∃ (k : Nat) (vl' : Value) (p q r e : Int) (s : ByteArray), k ≤ L ∧ v10 = .int .i64 k ∧ lastF to (l.take k) = (⟨p, q, r, s⟩, e) ∧ v9 = .int .i64 e ∧ FBox wr N n (.slice al L cl) vc ∧ FBox wr N2 0 (.slice none 0 0) (.slice none 0 0) ∧ wr.heap[N5]? = some (.cells #[.int .i64 0, .int .i64 0, .int .i64 0, .string { data := #[] }] 38 (0, 0)) ∧ FBox wr N3 n vl' (.slice x4 c.length y4) ∧ wr.heap[N6]? = some (.cells #[.int .i64 p, .int .i64 q, .int .i64 r, .string s] 38 (0, 0)) ∧ Own fc 4 38 wr (N6 + 1) vl' ((l.take k).filter (fun x => !(x.num == to))) ∧ Own wc 2 40 wr (N3 + 1) (.slice x4 c.length y4) c ∧ Below w.heap.size w wr) (fun _ v10 _ => L - (intOf v10).toNat)
  case atStart => exact ⟨0, _, 0, 0, 0, 24, { data := #[] }, Nat.zero_le _, rfl, rfl, rfl, HX16.out, HX26.out, HX56.out, HX36.out, HX66.out, Own.nil _ _ _, HO6.out, HB6.out⟩
  case round =>
    obtain ⟨k, vl', p, q, r, e, s, hk, rfl, hlast, rfl, hx1, hx2, hx5, hx3, hx6, ho1, ho2, hb⟩ := hrel
    obtain ⟨al', cl', rfl⟩ := ho1.slice
    have HY1 := Lib.hid hx1; have HY2 := Lib.hid hx2; have HY3 := Lib.hid hx3; have HY5 := Lib.hid hx5; have HY6 := Lib.hid hx6; have HP1 := Lib.hid ho1; have HP2 := Lib.hid ho2; have HBr := Lib.hid hb
    have hle : ((l.take k).filter (fun x => !(x.num == to))).length ≤ k := Nat.le_trans (List.length_filter_le ..) (List.length_take_le ..)
    obtain ⟨M, hM⟩ : ∃ M, ((l.take k).filter (fun x => !(x.num == to))).length = M := ⟨_, rfl⟩
    have HM := Lib.hid hM
    have HLa := Lib.hid hlast
    rw [hM] at HP1 HY3 hle
    clear hx1 hx2 hx3 hx5 hx6 ho1 ho2 hb hM HX16 HX26 HX36 HX56 HX66 HO6 HB6 hlast
    obtain ⟨q1, q2, q3, q4, q5⟩ := HNs.out
    have n26 : ¬ N2 = N6 := by omega
    have n16 : ¬ N = N6 := by omega
    have n56 : ¬ N5 = N6 := by omega
    have n36 : ¬ N3 = N6 := by omega
    have n23 : ¬ N2 = N3 := by omega
    have n13 : ¬ N = N3 := by omega
    have n53 : ¬ N5 = N3 := by omega
    have n63 : ¬ N6 = N3 := by omega
    have n25 : ¬ N2 = N5 := by omega
    clear q1 q2 q3 q4 q5
    by_cases hlt : k < L
    · have hlt' : (k : Int) < L := by omega
      have hk0 : (0 : Int) ≤ k := by omega
      have hi : k < l.length := by rw [HL.out]; exact hlt
      obtain ⟨_, a', cap', he, -, hcell⟩ := HS0.out.keep HBr.out
      obtain ⟨bk, off, hak, hbl, hcell⟩ := hcell (by omega)
      have hax : al = some ⟨bk, off, none⟩ := by injection he with h1 h2 h3; rw [h1, hak]
      obtain ⟨c1, c2, c3, c4⟩ := fcells_at (hcell k hi)
      have HYes := Lib.hid (keep_yes (fun x => x.num == to) l k hi); have HNo := Lib.hid (keep_no (fun x => x.num == to) l k hi)
      have HStep := Lib.hid (lastF_step to l k hi)
      obtain ⟨x, hx⟩ : ∃ x, l[k] = x := ⟨_, rfl⟩
      rw [hx] at c1 c2 c3 c4 HYes HNo HStep
      obtain ⟨xn, xs, xd, xb⟩ := x
      simp only at c1 c2 c3 c4 HYes HNo HStep
      subst hax
      clear he hak hbl hcell hx
      have hwk : True → wrap64 ((k : Int) + 1) = ((k + 1 : Nat) : Int) := fun _ => by
        rw [IntWalk.wrap64_in _ ⟨by omega, by omega⟩]; push_cast; omega
      obtain ⟨e1, e2, e3⟩ := HY1.out.cells
      by_cases hn : xn = to
      · subst hn
        have HE := Lib.hid (HYes.out (by simp))
        have HSt : Hid (lastF xn (l.take (k + 1)) = (⟨xn, xs, xd, xb⟩, 0)) := Lib.hid (by rw [HStep.out, if_pos rfl])
        obtain ⟨z0, z1, z2, z3⟩ := cells_at4 HY6.out
        obtain ⟨m0, m1, m2, m3⟩ := thaw_cells HY6.out
        have hk4 : ∀ j, j ≠ N6 → ((((wr.setCell ⟨N6, 0, none⟩ (.int .i64 xn)).setCell ⟨N6, 1, none⟩ (.int .i64 xs)).setCell ⟨N6, 2, none⟩ (.int .i64 xd)).setCell ⟨N6, 3, none⟩ (.string xb)).heap[j]? = wr.heap[j]? := fun j hj => by
          rw [heap_setCell_other _ _ _ _ hj, heap_setCell_other _ _ _ _ hj, heap_setCell_other _ _ _ _ hj, heap_setCell_other _ _ _ _ hj]
        have HZ1 := Lib.hid ((hk4 _ n16).trans HY1.out); have HZ2 := Lib.hid ((hk4 _ n26).trans HY2.out); have HZ3 := Lib.hid ((hk4 _ n36).trans HY3.out); have HZ5 := Lib.hid ((hk4 _ n56).trans HY5.out)
        have HZ6 := Lib.hid (set4_at HY6.out (.int .i64 xn) (.int .i64 xs) (.int .i64 xd) (.string xb))
        have hb1 : (Value.slice al' M cl').ownBlock ≠ some N6 := fun e => by have := (HP1.out.blk N6 e).1; omega
        have hb2 : (Value.slice x4 c.length y4).ownBlock ≠ some N6 := HP2.out.neBox HY6.out (by decide)
        have HQ1 := Lib.hid ((((HP1.out.setOther hb1 0 (.int .i64 xn)).setOther hb1 1 (.int .i64 xs)).setOther hb1 2 (.int .i64 xd)).setOther hb1 3 (.string xb))
        have HQ2 := Lib.hid ((((HP2.out.setOther hb2 0 (.int .i64 xn)).setOther hb2 1 (.int .i64 xs)).setOther hb2 2 (.int .i64 xd)).setOther hb2 3 (.string xb))
        have HB9 := Lib.hid (below_set4 HBr.out (show w.heap.size ≤ N6 by have := HNs.out; omega) (.int .i64 xn) (.int .i64 xs) (.int .i64 xd) (.string xb))
        clear hk4 hb1 hb2
        go_upto_region 10 with fail
        generalize ((((wr.setCell ⟨N6, 0, none⟩ (.int .i64 xn)).setCell ⟨N6, 1, none⟩ (.int .i64 xs)).setCell ⟨N6, 2, none⟩ (.int .i64 xd)).setCell ⟨N6, 3, none⟩ (.string xb)) = W8 at HZ1 HZ2 HZ3 HZ5 HZ6 HQ1 HQ2 HB9 ⊢
        clear z0 z1 z2 z3 m0 m1 m2 m3 e1 e2 e3 c1 c2 c3 c4
        go_wp2
        go_roundw
        case rel => exact ⟨k + 1, _, xn, xs, xd, 0, xb, by omega, by go_num, HSt.out, rfl, HZ1.out, HZ2.out, HZ5.out, HZ3.out, HZ6.out, by rw [HE.out]; exact HQ1.out, HQ2.out, HB9.out⟩
        case measure => simp [intOf]; omega
      · have HE := Lib.hid (HNo.out (by simpa using hn))
        have HSt : Hid (lastF to (l.take (k + 1)) = (⟨p, q, r, s⟩, e)) := Lib.hid (by rw [HStep.out, if_neg hn, HLa.out])
        have hbn : Below wr.heap.size wr (wr.drew.alloc (.cells (fc ⟨xn, xs, xd, xb⟩).toArray 38)) := (below_drew (Below.refl _ _)).trans (below_new wr.drew _)
        have HSn := Lib.hid (sl_new fc_len wr.drew ⟨xn, xs, xd, xb⟩ 38 _ rfl)
        have HOa := Lib.hid (HP1.out.below hbn); have HOb := Lib.hid (HP2.out.below hbn)
        have HX3a := Lib.hid (HY3.out.keep hbn); have HX2a := Lib.hid (HY2.out.keep hbn); have HX1a := Lib.hid (HY1.out.keep hbn)
        have HX5a := Lib.hid ((hbn.block _ (Array.getElem?_eq_some_iff.1 HY5.out).1).trans HY5.out); have HX6a := Lib.hid ((hbn.block _ (Array.getElem?_eq_some_iff.1 HY6.out).1).trans HY6.out)
        have HBn := Lib.hid (HBr.out.trans (hbn.mono HBr.out.size))
        have HM1 : Hid (M + 1 ≤ L) := Lib.hid (by omega)
        have HSn2 : Hid (N6 + 1 ≤ (wr.drew.alloc (.cells (fc ⟨xn, xs, xd, xb⟩).toArray 38)).heap.size) := Lib.hid ((Array.getElem?_eq_some_iff.1 HX6a.out).1)
        have HTy := Lib.hid (show (40 : Nat) ≠ 38 by decide)
        obtain ⟨k1, k2, k3⟩ := HY3.out.cells
        obtain ⟨t1, t2, t3⟩ := HY3.out.thaw
        have k4 : (wr.alloc (.cells #[.int .i64 xn, .int .i64 xs, .int .i64 xd, .string xb] 38)).cell? ⟨N3, 1, none⟩ = some (.slice al' M cl') := (HY3.out.keep (below_new wr (.cells #[.int .i64 xn, .int .i64 xs, .int .i64 xd, .string xb] 38))).cells.2.1
        clear hbn
        go_upto_region 11 with fail
        go_region_law (refine step_appSl fc_len fc_one (by decide) rfl _ _ 22 rfl (N6 + 1) 38 _ (by rfl) 40 Tryz.underlying22 infoFrm _ _ (by simp [Act.eval]) HOa.out ⟨wr.drew.heap.size, 0, none⟩ 1 1 [⟨xn, xs, xd, xb⟩] (by simp [Act.eval]) HSn.out (by have := HL1.out; have := HM1.out; rw [HM.out]; unfold maxLen; simp; omega) (by have := HL1.out; have := HM1.out; rw [HM.out]; simp; omega) HSn2.out ?_; intro v7 w7 ho7 hk7; obtain ⟨x7, y7, hv7⟩ := ho7.slice; rw [List.length_append, List.length_cons, List.length_nil, Nat.zero_add, HM.out] at hv7; subst hv7; have HX37 := Lib.hid (show FBox w7 N3 n (.slice al' M cl') (.slice x4 c.length y4) from (hk7.below N3 (by have := HNs.out; omega)).trans HX3a.out); have HX27 := Lib.hid (show FBox w7 N2 0 (.slice none 0 0) (.slice none 0 0) from (hk7.below N2 (by have := HNs.out; omega)).trans HX2a.out); have HX17 := Lib.hid ((hk7.below N (by have := HNs.out; omega)).trans HX1a.out); have HX57 := Lib.hid ((hk7.below N5 (by have := HNs.out; omega)).trans HX5a.out); have HX67 := Lib.hid ((hk7.below N6 (Nat.lt_succ_self _)).trans HX6a.out); have HBk7 := Lib.hid (show (Value.slice x7 (M + 1) y7).ownBlock ≠ some N3 from fun e => by have := (ho7.blk N3 e).1; have := HNs.out; omega); have HO17 := Lib.hid ho7; have HO27 := Lib.hid (HOb.out.keptOther hk7 HTy.out); have HB7 := Lib.hid (HBn.out.trans (hk7.toBelow.mono (show w.heap.size ≤ N6 + 1 by have := HNs.out; omega))); clear ho7 hk7 k1 k2 k3 k4 t1 t2 t3; obtain ⟨k1, k2, k3⟩ := HX37.out.cells; obtain ⟨t1, t2, t3⟩ := HX37.out.thaw)
        all_goals
          have HX38 := Lib.hid (HX37.out.set1 (.slice x7 (M + 1) y7))
          have HX28 := Lib.hid (show FBox (w7.setCell ⟨N3, 1, none⟩ (.slice x7 (M + 1) y7)) N2 0 (.slice none 0 0) (.slice none 0 0) from (heap_setCell_other _ _ _ _ n23).trans HX27.out)
          have HX18 := Lib.hid (show FBox (w7.setCell ⟨N3, 1, none⟩ (.slice x7 (M + 1) y7)) N n (.slice (some ⟨bk, off, none⟩) L cl) vc from (heap_setCell_other _ _ _ _ n13).trans HX17.out)
          have HX58 := Lib.hid ((heap_setCell_other w7 ⟨N3, 1, none⟩ N5 (.slice x7 (M + 1) y7) n53).trans HX57.out)
          have HX68 := Lib.hid ((heap_setCell_other w7 ⟨N3, 1, none⟩ N6 (.slice x7 (M + 1) y7) n63).trans HX67.out)
          have HO18 := Lib.hid (HO17.out.setOther HBk7.out 1 (.slice x7 (M + 1) y7)); have HO28 := Lib.hid (HO27.out.setOther (N := N3) (fun e => by have := (HO27.out.blk N3 e).1; omega) 1 (.slice x7 (M + 1) y7))
          have HB8 := Lib.hid (HB7.out.setCell (p := ⟨N3, 1, none⟩) (show w.heap.size ≤ N3 by have := HNs.out; omega) (.slice x7 (M + 1) y7))
          clear k1 k2 k3 t1 t2 t3
          generalize (w7.setCell ⟨N3, 1, none⟩ (.slice x7 (M + 1) y7)) = W8 at HX38 HX28 HX18 HX58 HX68 HO18 HO28 HB8 ⊢
          go_wp2
          go_roundw
          case rel => exact ⟨k + 1, _, p, q, r, e, s, by omega, by go_num, HSt.out, rfl, HX18.out, HX28.out, HX58.out, HX38.out, HX68.out, by rw [HE.out]; exact HO18.out, HO28.out, HB8.out⟩
          case measure => simp [intOf]; omega
    · obtain rfl : k = L := by omega
      have htk : l.take k = l := List.take_of_length_le (by rw [HL.out]; exact Nat.le_refl _)
      rw [htk] at HP1 HM HLa
      have hne5 : ¬ (Value.slice al' M cl').ownBlock = some N5 := fun e => by have := (HP1.out.blk N5 e).1; have := HNs.out; omega
      have hwz : w.heap.size ≤ N3 + 1 ∧ w.heap.size ≤ N6 + 1 ∧ w.heap.size ≤ N2 ∧ w.heap.size ≤ N5 := by have := HNs.out; omega
      have hba : (Value.slice al' M cl').ownBlock ≠ some N2 ∧ (Value.slice al' M cl').ownBlock ≠ some N5 := ⟨fun e => by have := (HP1.out.blk N2 e).1; have := HNs.out; omega, hne5⟩
      have hbb : (Value.slice x4 c.length y4).ownBlock ≠ some N2 ∧ (Value.slice x4 c.length y4).ownBlock ≠ some N5 := ⟨fun e => by have := (HP2.out.blk N2 e).1; have := HNs.out; omega, fun e => by have := (HP2.out.blk N5 e).1; have := HNs.out; omega⟩
      have HLay := Lib.hid (lay_two (w := w) ⟨p, q, r, s⟩ HY2.out HY5.out n25 (HP1.out.mono hwz.2.1) (HP2.out.mono hwz.1) hba hbb HBr.out hwz.2.2.1 hwz.2.2.2 n)
      obtain ⟨e1, e2, e3⟩ := HY1.out.cells
      obtain ⟨k1, k2, k3⟩ := HY3.out.cells
      obtain ⟨y0, y1, y2, y3⟩ := cells_at4 HY6.out
      obtain ⟨g1, g2, g3⟩ := HY2.out.cells
      obtain ⟨f1, f2, f3⟩ := HY2.out.thaw
      obtain ⟨z0, z1, z2, z3⟩ := cells_at4 HY5.out
      obtain ⟨m0, m1, m2, m3⟩ := thaw_cells HY5.out
      clear hne5 hwz hba hbb htk
      go_upto_region 12 with fail
      go_region_with fail
      all_goals
        obtain ⟨p1, p2, p3, p4, p5⟩ := HLay.out
        simp only at p1 p2 p3 p4 p5
        generalize (((((((wr.setCell ⟨N2, 0, none⟩ (.int .i64 n)).setCell ⟨N2, 1, none⟩ (.slice al' M cl')).setCell ⟨N2, 2, none⟩ (.slice x4 c.length y4)).setCell ⟨N5, 0, none⟩ (.int .i64 p)).setCell ⟨N5, 1, none⟩ (.int .i64 q)).setCell ⟨N5, 2, none⟩ (.int .i64 r)).setCell ⟨N5, 3, none⟩ (.string s)) = W8 at p1 p2 p3 p4 p5 ⊢
        have hd8 : Below W8.heap.size W8 W8.drew := ⟨rfl, rfl, rfl, Nat.le_refl _, fun _ _ => rfl⟩
        have HF := Lib.hid (p1.keep hd8); have HR8 := Lib.hid (show W8.drew.rangeAt N5 0 (fc ⟨p, q, r, s⟩) from p2); have HO18 := Lib.hid (p3.below hd8); have HO28 := Lib.hid (p4.below hd8); have HB8 := Lib.hid (below_drew p5)
        clear p1 p2 p3 p4 p5 hd8 e1 e2 e3 y0 y1 y2 y3 k1 k2 k3 f1 f2 f3 z0 z1 z2 z3 m0 m1 m2 m3 g1 g2 g3
        generalize W8.drew = W9 at HF HR8 HO18 HO28 HB8 ⊢
        go_wp2
        refine bodyPost_ret (retFF rfl rfl rfl HF.out HR8.out) rfl ?_
        unfold TakeS
        rw [HLa.out]
        exact ⟨_, _, rfl, HO18.out, HO28.out, HB8.out⟩
end Go.Proofs.YtalnmbfmfeaohaaGreat.flight
