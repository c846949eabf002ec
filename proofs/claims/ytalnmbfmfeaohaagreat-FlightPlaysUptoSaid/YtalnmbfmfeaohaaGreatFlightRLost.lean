/- The document's Lose. -/
import Derived.Test.YtalnmbfmfeaohaaGreatRows
import Derived.Test.YtalnmbfmfeaohaaGreatFlightRLose
namespace Go.Proofs.YtalnmbfmfeaohaaGreat.flight
open Go.RowKit
open Go.Proofs.YtalnmbfmfeaohaaGreat.kit Go.Proofs.YtalnmbfmfeaohaaGreat.own
set_option linter.unusedVariables false

set_option maxHeartbeats 8000000 in
set_option maxRecDepth 100000 in
theorem rLose_any (v : Value) (f : Flt) (to : Int) (w : World) (h : FlR w v f) (hl1 : f.list.length * 40 ≤ 140737488355328) (hl2 : f.cut.length * 16 ≤ 140737488355328) :
    Calls Tryz.prog 25 #[v, .int .i64 to] w (TwoS w ⟨f.next, f.list.filter (fun x => !loseP 0 to true x), f.cut⟩ ((f.list.length : Int) - (f.list.filter (fun x => !loseP 0 to true x)).length)) := by
  obtain ⟨vl, vc, rfl, hl, hc⟩ := id h
  have hb1 := below_new w (.cells #[.int .i64 f.next, vl, vc] 25)
  have hb2 := below_new (w.alloc (.cells #[.int .i64 f.next, vl, vc] 25)) (.cells #[.int .i64 0, .slice none 0 0, .slice none 0 0] 25)
  have hx1 := (fbox_new w f.next vl vc).keep hb2
  have hx2 := fbox_new (w.alloc (.cells #[.int .i64 f.next, vl, vc] 25)) 0 (.slice none 0 0) (.slice none 0 0)
  rw [World.size_alloc] at hx2
  have hb := hb1.trans (hb2.mono (by simp))
  have HFl := Lib.hid (h.keep hb)
  have HX1 := Lib.hid hx1; have HX2 := Lib.hid hx2; have HB := Lib.hid hb; have HL1 := Lib.hid hl1; have HL2 := Lib.hid hl2
  obtain ⟨n, l, c⟩ := f
  simp only at HX1 HX2 HB HFl HL1 HL2 ⊢
  obtain ⟨r, hr⟩ : ∃ r, l.filter (fun x => !loseP 0 to true x) = r := ⟨_, rfl⟩
  have HR := Lib.hid hr
  clear hl hc hb1 hb2 hx1 hx2 hb h hl1 hl2 hr
  go_enter Tryz.func25, Tryz.ntmps25
  go_upto_region 1 with fail
  generalize (w.alloc (.cells #[.int .i64 n, vl, vc] 25)).alloc (.cells #[.int .i64 0, .slice none 0 0, .slice none 0 0] 25) = W at HFl HX1 HX2 HB ⊢
  generalize hN2 : w.heap.size + 1 = N2 at HX2 ⊢
  obtain ⟨N, hN⟩ : ∃ N, w.heap.size = N := ⟨_, rfl⟩
  rw [hN] at HX1 ⊢
  have HN := Lib.hid (And.intro hN hN2)
  clear hN hN2
  obtain ⟨e1, e2, e3⟩ := HX1.out.cells
  go_wp2_with fail
  refine (rlose_any _ ⟨n, l, c⟩ 0 to true W HFl.out HL1.out HL2.out).mono ?_
  rintro e w1 ⟨vl1, vc1, rfl, ho1, ho2, hb1⟩
  simp only at ho1 ho2 ⊢
  rw [HR.out] at ho1
  obtain ⟨a1, c1, rfl⟩ := ho1.slice
  obtain ⟨a2, c2, rfl⟩ := ho2.slice
  have HY2 := Lib.hid (HX2.out.keep hb1)
  have hlt := HX2.out.lt
  have hwz : w.heap.size ≤ W.heap.size := HB.out.size
  have HF := Lib.hid (HY2.out.set n (.slice a1 r.length c1) (.slice a2 c.length c2))
  have HOf := Lib.hid ((ho1.set3 (N := N2) hlt (.int .i64 n) (.slice a1 r.length c1) (.slice a2 c.length c2)).mono hwz)
  have HPf := Lib.hid ((ho2.set3 (N := N2) hlt (.int .i64 n) (.slice a1 r.length c1) (.slice a2 c.length c2)).mono hwz)
  have HBf := Lib.hid (below_set3 (HB.out.trans (hb1.mono hwz)) (show w.heap.size ≤ N2 by have := HN.out; omega) (.int .i64 n) (.slice a1 r.length c1) (.slice a2 c.length c2))
  rw [HR.out]
  clear ho1 ho2 hb1 hlt hwz e1 e2 e3
  obtain ⟨g1, g2, g3⟩ := HY2.out.cells
  obtain ⟨f1, f2, f3⟩ := HY2.out.thaw
  go_wp2
  refine bodyPost_ret (retF2 rfl rfl HF.out) rfl ?_
  rw [HR.out]
  exact ⟨_, _, rfl, HOf.out, HPf.out, HBf.out⟩

end Go.Proofs.YtalnmbfmfeaohaaGreat.flight
