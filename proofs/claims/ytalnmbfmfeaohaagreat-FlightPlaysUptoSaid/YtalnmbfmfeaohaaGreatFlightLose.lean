/- What goes to a node is lost. -/
import Derived.Test.YtalnmbfmfeaohaaGreatRows
import Derived.Test.YtalnmbfmfeaohaaGreatFlightSev
namespace Go.Proofs.YtalnmbfmfeaohaaGreat.flight
open Go.RowKit
open Go.Proofs.YtalnmbfmfeaohaaGreat.kit Go.Proofs.YtalnmbfmfeaohaaGreat.own
set_option linter.unusedVariables false

set_option maxHeartbeats 8000000 in
set_option maxRecDepth 100000 in
theorem Lose_any (v : Value) (f : Flt) (to : Int) (w : World) (h : FlR w v f) (hf : f.Fits) :
    Calls Tryz.prog 24 #[v, .int .i64 to] w (TwoS w ⟨f.next, f.list.filter (fun x => !(x.dst == to)), f.cut⟩ ((f.list.length : Int) - (f.list.filter (fun x => !(x.dst == to))).length)) := by
  obtain ⟨vl, vc, rfl, hll, hc⟩ := id h
  have hb1 := below_new w (.cells #[.int .i64 f.next, vl, vc] 25)
  have hb2 := below_new (w.alloc (.cells #[.int .i64 f.next, vl, vc] 25)) (.cells #[.int .i64 0, .slice none 0 0, .slice none 0 0] 25)
  have hx1 := (fbox_new w f.next vl vc).keep hb2
  have hx2 := fbox_new (w.alloc (.cells #[.int .i64 f.next, vl, vc] 25)) 0 (.slice none 0 0) (.slice none 0 0)
  rw [World.size_alloc] at hx2
  have hb := hb1.trans (hb2.mono (by simp))
  have HFl := Lib.hid (h.keep hb); have HX1 := Lib.hid hx1; have HX2 := Lib.hid hx2; have HB := Lib.hid hb; have HFt := Lib.hid hf
  obtain ⟨n, l, c⟩ := f
  simp only at HX1 HX2 HB HFl HFt ⊢
  clear hll hc hb1 hb2 hx1 hx2 hb h hf
  obtain ⟨r, hr⟩ : ∃ r, (l.filter fun x => !(x.dst == to)) = r := ⟨_, rfl⟩
  have HR := Lib.hid hr
  rw [hr]
  clear hr
  go_enter Tryz.func24, Tryz.ntmps24
  go_upto_region 1 with fail
  generalize (w.alloc (.cells #[.int .i64 n, _, _] 25)).alloc _ = W at HFl HX1 HX2 HB ⊢
  generalize hN2 : w.heap.size + 1 = N2 at HX2 ⊢
  obtain ⟨N, hN⟩ : ∃ N, w.heap.size = N := ⟨_, rfl⟩
  rw [hN] at HX1 ⊢
  have HN := Lib.hid (And.intro hN hN2)
  clear hN hN2
  obtain ⟨e1, e2, e3⟩ := HX1.out.cells
  have HD : Hid (Below W.heap.size W W.drew) := Lib.hid ⟨rfl, rfl, rfl, Nat.le_refl _, fun _ _ => rfl⟩
  have HSs : Hid (∀ u, Below W.heap.size W u → u.cell? ⟨N, 0, none⟩ = some (.int .i64 n) ∧ u.cell? ⟨N, 1, none⟩ = some vl ∧ u.cell? ⟨N, 2, none⟩ = some vc) := Lib.hid (fun u hu => (HX1.out.keep hu).cells)
  have HNe2 := Lib.hid (show N ≠ N2 by have := HN.out; omega)
  go_region_held3 (fun u => u.cell? ⟨N, 0, none⟩ = some (.int .i64 n) ∧ u.cell? ⟨N, 1, none⟩ = some vl ∧ u.cell? ⟨N, 2, none⟩ = some vc)
    (first | exact HSs.out _ HD.out | exact HSs.out _ HB3.out | exact HSs.out _ HB4.out | exact (HX14.out.other HNe2.out _ _ _).cells)
    (first
      | ((go_at_call 38; with_reducible refine (bound_any to _).mono ?_); (rintro e w3 ⟨lb, g, rfl, hm, hb3⟩; have HB3 := Lib.hid (HD.out.trans hb3); have HM := Lib.hid hm; clear hb3 hm))
      | ((go_at_call 46; refine (without_any _ _ ⟨n, l, c⟩ (fun x => x.dst == to) w3 (HFl.out.keep HB3.out) HFt.out HM.out).mono ?_); (rintro e w4 ⟨vl4, vc4, rfl, ho4, ho5, hb4⟩; simp only at ho4 ho5; rw [HR.out] at ho4; rw [HR.out]; obtain ⟨x4, y4, rfl⟩ := ho4.slice; obtain ⟨x5, y5, rfl⟩ := ho5.slice; have HB4 := Lib.hid (HB3.out.trans (hb4.mono HB3.out.size)); have HX14 := Lib.hid (HX1.out.keep HB4.out); have HX24 := Lib.hid (HX2.out.keep HB4.out); have HO4 := Lib.hid ho4; have HO5 := Lib.hid ho5; clear ho4 ho5 hb4; obtain ⟨k1, k2, k3⟩ := HX24.out.cells; obtain ⟨f1, f2, f3⟩ := HX24.out.thaw)))
  all_goals
    have hlt : N2 < w3.heap.size := Nat.lt_of_lt_of_le HX2.out.lt HB3.out.size
    have hle : w.heap.size ≤ w3.heap.size := Nat.le_trans HB.out.size HB3.out.size
    have hF := HX24.out.set n (.slice x4 r.length y4) (.slice x5 c.length y5)
    have hO1 := (HO4.out.set3 hlt (.int .i64 n) (.slice x4 r.length y4) (.slice x5 c.length y5)).mono hle
    have hO2 := (HO5.out.set3 hlt (.int .i64 n) (.slice x4 r.length y4) (.slice x5 c.length y5)).mono hle
    have hB := below_set3 (HB.out.trans (HB4.out.mono HB.out.size)) (show w.heap.size ≤ N2 by have := HN.out; omega) (.int .i64 n) (.slice x4 r.length y4) (.slice x5 c.length y5)
    have HF := Lib.hid hF; have HO1 := Lib.hid hO1; have HO2 := Lib.hid hO2; have HBf := Lib.hid hB
    clear hF hO1 hO2 hB e1 e2 e3 k1 k2 k3 f1 f2 f3
    generalize (((w4.setCell ⟨N2, 0, none⟩ (.int .i64 n)).setCell ⟨N2, 1, none⟩ (.slice x4 r.length y4)).setCell ⟨N2, 2, none⟩ (.slice x5 c.length y5)) = W9 at HF HO1 HO2 HBf ⊢
    go_wp2
    refine bodyPost_ret (retF2 rfl rfl HF.out) rfl ?_
    exact ⟨_, _, rfl, HO1.out, HO2.out, HBf.out⟩

end Go.Proofs.YtalnmbfmfeaohaaGreat.flight
