/- The document's Double. -/
import Derived.Test.YtalnmbfmfeaohaaGreatRows
import Derived.Test.YtalnmbfmfeaohaaGreatFlightRTake
namespace Go.Proofs.YtalnmbfmfeaohaaGreat.flight
open Go.RowKit
open Go.Proofs.YtalnmbfmfeaohaaGreat.kit Go.Proofs.YtalnmbfmfeaohaaGreat.own
set_option linter.unusedVariables false

/-- What the document's Double tells. -/
def rdblE (f : Flt) (k : Int) : Flt × Int × Int := if (lastF k f.list).2 = 0 then putE f (lastF k f.list).1.src (lastF k f.list).1.dst (lastF k f.list).1.body else (f, 0, (lastF k f.list).2)

set_option maxHeartbeats 16000000 in
set_option maxRecDepth 100000 in
theorem rDouble_any (v : Value) (f : Flt) (k : Int) (w : World) (h : FlR w v f) (hl1 : (f.list.length + 1) * 40 ≤ 140737488355328) (hl2 : f.cut.length * 16 ≤ 140737488355328) (hn : I64 f.next) :
    Calls Tryz.prog 20 #[v, .int .i64 k] w (ThreeS w (rdblE f k)) := by
  obtain ⟨vl, vc, rfl, hl, hc⟩ := id h
  have hb1 := below_new w (.cells #[.int .i64 f.next, vl, vc] 25)
  have hb2 := below_new (w.alloc (.cells #[.int .i64 f.next, vl, vc] 25)) (.cells #[.int .i64 0, .slice none 0 0, .slice none 0 0] 25)
  have hx1 := (fbox_new w f.next vl vc).keep hb2
  have hx2 := fbox_new (w.alloc (.cells #[.int .i64 f.next, vl, vc] 25)) 0 (.slice none 0 0) (.slice none 0 0)
  rw [World.size_alloc] at hx2
  have hb := hb1.trans (hb2.mono (by simp))
  have HFl := Lib.hid (h.keep hb)
  have HX1 := Lib.hid hx1; have HX2 := Lib.hid hx2; have HB := Lib.hid hb; have HL1 := Lib.hid hl1; have HL2 := Lib.hid hl2; have HNx := Lib.hid hn
  obtain ⟨n, l, c⟩ := f
  simp only at HX1 HX2 HB HFl HL1 HL2 HNx ⊢
  obtain ⟨⟨⟨yn, ys, yd, yb⟩, er⟩, hy⟩ : ∃ y, lastF k l = y := ⟨_, rfl⟩
  have HY := Lib.hid hy
  have HE : Hid (rdblE ⟨n, l, c⟩ k = if er = 0 then putE ⟨n, l, c⟩ ys yd yb else (⟨n, l, c⟩, 0, er)) := Lib.hid (by unfold rdblE; simp only; rw [hy])
  clear hl hc hb1 hb2 hx1 hx2 hb h hl1 hl2 hn hy
  go_enter Tryz.func20, Tryz.ntmps20
  go_upto_region 1 with fail
  generalize (w.alloc (.cells #[.int .i64 n, vl, vc] 25)).alloc (.cells #[.int .i64 0, .slice none 0 0, .slice none 0 0] 25) = W at HFl HX1 HX2 HB ⊢
  generalize hN2 : w.heap.size + 1 = N2 at HX2 ⊢
  obtain ⟨N, hN⟩ : ∃ N, w.heap.size = N := ⟨_, rfl⟩
  rw [hN] at HX1 ⊢
  have HN := Lib.hid (And.intro hN hN2)
  clear hN hN2
  obtain ⟨e1, e2, e3⟩ := HX1.out.cells
  go_wp2_with fail
  refine (rTake_any _ ⟨n, l, c⟩ k W HFl.out (by have := HL1.out; simp only; omega) HL2.out).mono ?_
  rintro e w1 ⟨vl1, vc1, rfl, ho1, ho2, hb1⟩
  simp only [HY.out] at ho1 ho2 ⊢
  unfold fval
  simp only
  generalize l.filter (fun x => !(x.num == k)) = l1 at ho1
  obtain ⟨a1, c1, rfl⟩ := ho1.slice
  obtain ⟨a2, c2, rfl⟩ := ho2.slice
  have hb7 := below_new w1 (.cells #[.int .i64 n, .slice a1 l1.length c1, .slice a2 c.length c2] 25)
  have hb8 := below_new (w1.alloc (.cells #[.int .i64 n, .slice a1 l1.length c1, .slice a2 c.length c2] 25)) (.cells #[.int .i64 yn, .int .i64 ys, .int .i64 yd, .string yb] 38)
  have hx8 := alloc_at (w1.alloc (.cells #[.int .i64 n, .slice a1 l1.length c1, .slice a2 c.length c2] 25)) (.cells #[.int .i64 yn, .int .i64 ys, .int .i64 yd, .string yb] 38)
  rw [World.size_alloc] at hx8
  have hbb := hb1.trans ((hb7.trans (hb8.mono (by simp))).mono hb1.size)
  have HX8 := Lib.hid hx8
  have HX17 := Lib.hid (HX1.out.keep hbb); have HX27 := Lib.hid (HX2.out.keep hbb); have HFl7 := Lib.hid (HFl.out.keep hbb)
  have HB7 := Lib.hid (HB.out.trans (hbb.mono HB.out.size))
  have HSz := Lib.hid hbb.size
  clear hb1 hb7 hb8 hbb hx8 ho1 ho2 e1 e2 e3
  go_upto_region 2 with fail
  generalize ((w1.alloc (.cells #[.int .i64 n, .slice a1 l1.length c1, .slice a2 c.length c2] 25)).alloc (.cells #[.int .i64 yn, .int .i64 ys, .int .i64 yd, .string yb] 38)) = W7 at HX8 HX17 HX27 HFl7 HB7 HSz ⊢
  generalize w1.heap.size + 1 = N8 at HX8 ⊢
  generalize w1.heap.size = N7 at ⊢
  obtain ⟨e1, e2, e3⟩ := HX17.out.cells
  by_cases h0 : er = 0
  · subst h0
    obtain ⟨r, hr⟩ : ∃ r, putE ⟨n, l, c⟩ ys yd yb = r := ⟨_, rfl⟩
    have HP : Hid (rdblE ⟨n, l, c⟩ k = r) := Lib.hid (by rw [HE.out, if_pos rfl]; exact hr)
    have HR := Lib.hid hr
    clear hr
    obtain ⟨z0, z1, z2, z3⟩ := cells_at4 HX8.out
    go_wp2_with fail
    refine (rPut_any _ ⟨n, l, c⟩ ys yd yb W7 HFl7.out HL1.out HL2.out HNx.out).mono ?_
    rw [HR.out]
    obtain ⟨⟨n2, l2, c3⟩, q2, r2⟩ := r
    rintro e w6 ⟨vl2, vc2, rfl, ho1, ho2, hb2⟩
    simp only at ho1 ho2 ⊢
    obtain ⟨a3, d1, rfl⟩ := ho1.slice
    obtain ⟨a4, d2, rfl⟩ := ho2.slice
    have HX26 := Lib.hid (HX27.out.keep hb2)
    have HO1 := Lib.hid ho1; have HO2 := Lib.hid ho2; have HB6 := Lib.hid (HB7.out.trans (hb2.mono HB7.out.size))
    clear e1 e2 e3 ho1 ho2 hb2 z0 z1 z2 z3
    obtain ⟨k1, k2, k3⟩ := HX26.out.cells
    obtain ⟨f1, f2, f3⟩ := HX26.out.thaw
    go_wp2
    have hlt := HX27.out.lt
    have hF := HX26.out.set n2 (.slice a3 l2.length d1) (.slice a4 c3.length d2)
    have hO1 := (HO1.out.set3 hlt (.int .i64 n2) (.slice a3 l2.length d1) (.slice a4 c3.length d2)).mono (show w.heap.size ≤ W7.heap.size from HB7.out.size)
    have hO2 := (HO2.out.set3 hlt (.int .i64 n2) (.slice a3 l2.length d1) (.slice a4 c3.length d2)).mono (show w.heap.size ≤ W7.heap.size from HB7.out.size)
    have hB := below_set3 HB6.out (show w.heap.size ≤ N2 by have := HN.out; omega) (.int .i64 n2) (.slice a3 l2.length d1) (.slice a4 c3.length d2)
    refine bodyPost_ret (retF3 rfl rfl hF) rfl ?_
    unfold ThreeS
    rw [HP.out]
    exact ⟨_, _, rfl, hO1, hO2, hB⟩
  · have HP : Hid (rdblE ⟨n, l, c⟩ k = (⟨n, l, c⟩, 0, er)) := Lib.hid (by rw [HE.out, if_neg h0])
    go_wp2_with fail
    refine (rCopy_any _ ⟨n, l, c⟩ W7 HFl7.out (by have := HL1.out; simp only; omega) HL2.out).mono ?_
    rintro e w6 ⟨vl2, vc2, rfl, ho1, ho2, hb2⟩
    simp only at ho1 ho2 ⊢
    obtain ⟨a3, d1, rfl⟩ := ho1.slice
    obtain ⟨a4, d2, rfl⟩ := ho2.slice
    have HX26 := Lib.hid (HX27.out.keep hb2)
    have HO1 := Lib.hid ho1; have HO2 := Lib.hid ho2; have HB6 := Lib.hid (HB7.out.trans (hb2.mono HB7.out.size))
    clear e1 e2 e3 ho1 ho2 hb2
    obtain ⟨k1, k2, k3⟩ := HX26.out.cells
    obtain ⟨f1, f2, f3⟩ := HX26.out.thaw
    go_wp2
    have hlt := HX27.out.lt
    have hF := HX26.out.set n (.slice a3 l.length d1) (.slice a4 c.length d2)
    have hO1 := (HO1.out.set3 hlt (.int .i64 n) (.slice a3 l.length d1) (.slice a4 c.length d2)).mono (show w.heap.size ≤ W7.heap.size from HB7.out.size)
    have hO2 := (HO2.out.set3 hlt (.int .i64 n) (.slice a3 l.length d1) (.slice a4 c.length d2)).mono (show w.heap.size ≤ W7.heap.size from HB7.out.size)
    have hB := below_set3 HB6.out (show w.heap.size ≤ N2 by have := HN.out; omega) (.int .i64 n) (.slice a3 l.length d1) (.slice a4 c.length d2)
    refine bodyPost_ret (retF3 rfl rfl hF) rfl ?_
    unfold ThreeS
    rw [HP.out]
    exact ⟨_, _, rfl, hO1, hO2, hB⟩
end Go.Proofs.YtalnmbfmfeaohaaGreat.flight
