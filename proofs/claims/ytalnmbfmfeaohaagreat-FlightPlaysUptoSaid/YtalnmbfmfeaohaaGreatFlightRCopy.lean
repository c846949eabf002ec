/- The document's Copy. -/
import Derived.Test.YtalnmbfmfeaohaaGreatRows
import Derived.Test.YtalnmbfmfeaohaaGreatFlightCut
namespace Go.Proofs.YtalnmbfmfeaohaaGreat.flight
open Go.RowKit
open Go.Proofs.YtalnmbfmfeaohaaGreat.kit Go.Proofs.YtalnmbfmfeaohaaGreat.own
set_option linter.unusedVariables false

theorem FBox.set1 {W : World} {N : Nat} {n : Int} {vl vc : Value} (h : FBox W N n vl vc) (v : Value) : FBox (W.setCell ⟨N, 1, none⟩ v) N n v vc := by
  have h1 := heap_setCell_same W N 1 _ _ v h
  simpa [FBox] using h1
theorem FBox.set2 {W : World} {N : Nat} {n : Int} {vl vc : Value} (h : FBox W N n vl vc) (v : Value) : FBox (W.setCell ⟨N, 2, none⟩ v) N n vl v := by
  have h1 := heap_setCell_same W N 2 _ _ v h
  simpa [FBox] using h1

set_option maxHeartbeats 8000000 in
set_option maxRecDepth 100000 in
theorem rCopy_any (v : Value) (f : Flt) (w : World) (h : FlR w v f) (hl1 : f.list.length * 40 ≤ 140737488355328) (hl2 : f.cut.length * 16 ≤ 140737488355328) : Calls Tryz.prog 6 #[v] w (CopyS w f) := by
  obtain ⟨vl, vc, rfl, hl, hc⟩ := h
  have hb1 := below_new w (.cells #[.int .i64 f.next, vl, vc] 25)
  have hb2 := below_new (w.alloc (.cells #[.int .i64 f.next, vl, vc] 25)) (.cells #[.int .i64 0, .slice none 0 0, .slice none 0 0] 25)
  have hx1 := (fbox_new w f.next vl vc).keep hb2
  have hx2 := fbox_new (w.alloc (.cells #[.int .i64 f.next, vl, vc] 25)) 0 (.slice none 0 0) (.slice none 0 0)
  rw [World.size_alloc] at hx2
  have hb := hb1.trans (hb2.mono (by simp))
  have HS1 := Lib.hid (hl.keep hb); have HS2 := Lib.hid (hc.keep hb)
  have HX1 := Lib.hid hx1; have HX2 := Lib.hid hx2; have HB := Lib.hid hb
  have HL1 := Lib.hid hl1; have HL2 := Lib.hid hl2
  obtain ⟨n, l, c⟩ := f
  simp only at HS1 HS2 HX1 HX2 HB HL1 HL2 ⊢
  clear hl hc hb1 hb2 hx1 hx2 hb hl1 hl2
  go_enter Tryz.func6, Tryz.ntmps6
  go_upto_region 1 with fail
  generalize (w.alloc (.cells #[.int .i64 n, vl, vc] 25)).alloc _ = W at HS1 HS2 HX1 HX2 HB ⊢
  generalize hN2 : w.heap.size + 1 = N2 at HX2 ⊢
  obtain ⟨N, hN⟩ : ∃ N, w.heap.size = N := ⟨_, rfl⟩
  rw [hN] at HX1 ⊢
  have HN := Lib.hid (And.intro hN hN2)
  clear hN hN2
  obtain ⟨e1, e2, e3⟩ := HX1.out.cells
  go_upto_region 2 with fail
  have hb3 := below_new W (.cells #[.int .i64 n, .slice none 0 0, .slice none 0 0] 25)
  have HX3 := Lib.hid (fbox_new W n (.slice none 0 0) (.slice none 0 0))
  have HB3 := Lib.hid hb3
  have HZ3 : Hid (W.heap.size < (W.alloc (.cells #[.int .i64 n, .slice none 0 0, .slice none 0 0] 25)).heap.size) := Lib.hid (by simp)
  clear hb3 e1 e2 e3
  generalize (W.alloc (.cells #[.int .i64 n, .slice none 0 0, .slice none 0 0] 25)) = W3 at HX3 HB3 HZ3 ⊢
  obtain ⟨N3, hN3⟩ : ∃ N, W.heap.size = N := ⟨_, rfl⟩
  have HN3 := Lib.hid hN3
  rw [hN3] at HX3 HZ3 ⊢
  clear hN3
  have e2 := (HX1.out.keep HB3.out).cells.2.1
  obtain ⟨k1, k2, k3⟩ := HX3.out.cells
  have HO := Lib.hid (Own.nil (enc := fc) (k := 4) W3 38 W3.heap.size)
  go_upto_region 3 with (at_builtin; refine appSl fc_len fc_one (by decide) rfl _ _ 22 rfl W3.heap.size 38 _ (by rfl) 40 Tryz.underlying22 infoFrm _ [] rfl HO.out _ l rfl (HS1.out.keep HB3.out) (by have := HL1.out; unfold maxLen; simp; omega) (by have := HL1.out; simpa using this) (Nat.le_refl _) ?_; intro v4 w4 ho hk; rw [List.nil_append] at ho; obtain ⟨x4, y4, rfl⟩ := ho.slice; have HO4 := Lib.hid ho; have HK := Lib.hid hk.toBelow; clear ho hk k1 k2 k3 e2; have HX34 := Lib.hid (HX3.out.keep HK.out); obtain ⟨k1, k2, k3⟩ := HX34.out.cells; obtain ⟨f1, f2, f3⟩ := HX34.out.thaw)
  have HX35 := Lib.hid (HX34.out.set1 (.slice x4 l.length y4))
  have HB5 := Lib.hid ((HB3.out.trans (HK.out.mono HB3.out.size)).setCell (p := ⟨N3, 1, none⟩) (Nat.le_of_eq HN3.out) (.slice x4 l.length y4))
  have HO5 := Lib.hid (HO4.out.setOther (N := N3) (fun e => by have := (HO4.out.blk N3 e).1; have := HZ3.out; omega) 1 (.slice x4 l.length y4))
  have HZ5 : Hid (W3.heap.size ≤ (w4.setCell ⟨N3, 1, none⟩ (.slice x4 l.length y4)).heap.size) := Lib.hid (by rw [World.size_setCell]; exact HK.out.size)
  clear k1 k2 k3 f1 f2 f3 HX34 HO4 HX3
  generalize (w4.setCell ⟨N3, 1, none⟩ (.slice x4 l.length y4)) = W5 at HX35 HB5 HO5 HZ5 ⊢
  have e3 := (HX1.out.keep HB5.out).cells.2.2
  obtain ⟨k1, k2, k3⟩ := HX35.out.cells
  have HP := Lib.hid (Own.nil (enc := wc) (k := 2) W5 40 W5.heap.size)
  go_upto_region 4 with (at_builtin; refine appSl wc_len wc_one (by decide) rfl _ _ 23 rfl W5.heap.size 40 _ (by rfl) 16 Tryz.underlying23 infoWay _ [] rfl HP.out _ c rfl (HS2.out.keep HB5.out) (by have := HL2.out; unfold maxLen; simp; omega) (by have := HL2.out; simpa using this) (Nat.le_refl _) ?_; intro v6 w6 ho hk; rw [List.nil_append] at ho; obtain ⟨x6, y6, rfl⟩ := ho.slice; have HP6 := Lib.hid ho; have HK6 := Lib.hid hk.toBelow; clear ho hk k1 k2 k3 e3; have HX36 := Lib.hid (HX35.out.keep HK6.out); obtain ⟨k1, k2, k3⟩ := HX36.out.cells; obtain ⟨f1, f2, f3⟩ := HX36.out.thaw)
  have HX37 := Lib.hid (HX36.out.set2 (.slice x6 c.length y6))
  have HB7 := Lib.hid ((HB5.out.trans (HK6.out.mono HB5.out.size)).setCell (p := ⟨N3, 2, none⟩) (Nat.le_of_eq HN3.out) (.slice x6 c.length y6))
  have HO7 := Lib.hid ((HO5.out.below HK6.out).setOther (N := N3) (fun e => by have := (HO5.out.blk N3 e).1; have := HZ3.out; omega) 2 (.slice x6 c.length y6))
  have HP7 := Lib.hid (HP6.out.setOther (N := N3) (fun e => by have := (HP6.out.blk N3 e).1; have := HZ3.out; have := HZ5.out; omega) 2 (.slice x6 c.length y6))
  clear k1 k2 k3 f1 f2 f3 HX36 HP6 HO5 HX35
  generalize (w6.setCell ⟨N3, 2, none⟩ (.slice x6 c.length y6)) = W7 at HX37 HB7 HO7 HP7 ⊢
  have hN2l := HX2.out.lt
  have HX27 := Lib.hid (HX2.out.keep HB7.out)
  obtain ⟨k1, k2, k3⟩ := HX37.out.cells
  obtain ⟨g1, g2, g3⟩ := HX27.out.cells
  obtain ⟨f1, f2, f3⟩ := HX27.out.thaw
  have HF := Lib.hid (HX27.out.set n (.slice x4 l.length y4) (.slice x6 c.length y6))
  have hz : w.heap.size ≤ W3.heap.size := Nat.le_trans HB.out.size HB3.out.size
  have HOf := Lib.hid ((HO7.out.set3 (N := N2) (by have := HB3.out.size; omega) (.int .i64 n) (.slice x4 l.length y4) (.slice x6 c.length y6)).mono hz)
  have HPf := Lib.hid ((HP7.out.set3 (N := N2) (by have := HB3.out.size; have := HZ5.out; omega) (.int .i64 n) (.slice x4 l.length y4) (.slice x6 c.length y6)).mono (Nat.le_trans hz HZ5.out))
  have HBf := Lib.hid (below_set3 (HB.out.trans (HB7.out.mono HB.out.size)) (show w.heap.size ≤ N2 by have := HN.out; omega) (.int .i64 n) (.slice x4 l.length y4) (.slice x6 c.length y6))
  clear hN2l hz
  go_wp2
  refine bodyPost_ret (retF rfl rfl HF.out) rfl ?_
  exact ⟨_, _, rfl, HOf.out, HPf.out, HBf.out⟩

end Go.Proofs.YtalnmbfmfeaohaaGreat.flight
