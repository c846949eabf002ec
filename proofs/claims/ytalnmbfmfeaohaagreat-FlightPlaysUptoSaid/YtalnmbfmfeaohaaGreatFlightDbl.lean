/- Double: a frame put on its way once more. -/
import Derived.Test.YtalnmbfmfeaohaaGreatRows
import Derived.Test.YtalnmbfmfeaohaaGreatFlightOld
namespace Go.Proofs.YtalnmbfmfeaohaaGreat.flight
open Go.RowKit
open Go.Proofs.YtalnmbfmfeaohaaGreat.kit Go.Proofs.YtalnmbfmfeaohaaGreat.own
set_option linter.unusedVariables false

/-- What comes of putting a frame on its way once more. -/
def dblE (f : Flt) (k : Int) : Flt × Int × Int := match f.list.find? (fun x => x.num == k) with | none => (f, 0, 24) | some x => putE f x.src x.dst x.body

theorem cells_at4 {W : World} {N : Nat} {p q r s : Value} {t : TypeId} (h : W.heap[N]? = some (.cells #[p, q, r, s] t (0, 0))) : W.cell? ⟨N, 0, none⟩ = some p ∧ W.cell? ⟨N, 1, none⟩ = some q ∧ W.cell? ⟨N, 2, none⟩ = some r ∧ W.cell? ⟨N, 3, none⟩ = some s := by
  refine ⟨?_, ?_, ?_, ?_⟩ <;> simp [World.cell?, h]

set_option maxHeartbeats 8000000 in
set_option maxRecDepth 100000 in
theorem Double_any (v : Value) (f : Flt) (k : Int) (w : World) (h : FlR w v f) (hok : ∀ x ∈ f.list, Frm.Ok x) (hoc : ∀ y ∈ f.cut, Wy.Ok y) (hl1 : f.list.length * 40 ≤ 140737488355328) (hl2 : f.cut.length * 16 ≤ 140737488355328) (hn : I64 f.next) :
    Calls Tryz.prog 12 #[v, .int .i64 k] w (ThreeS w (dblE f k)) := by
  obtain ⟨vl, vc, rfl, hl, hc⟩ := id h
  have hb1 := below_new w (.cells #[.int .i64 f.next, vl, vc] 25)
  have hb2 := below_new (w.alloc (.cells #[.int .i64 f.next, vl, vc] 25)) (.cells #[.int .i64 0, .slice none 0 0, .slice none 0 0] 25)
  have hx1 := (fbox_new w f.next vl vc).keep hb2
  have hx2 := fbox_new (w.alloc (.cells #[.int .i64 f.next, vl, vc] 25)) 0 (.slice none 0 0) (.slice none 0 0)
  rw [World.size_alloc] at hx2
  have hb := hb1.trans (hb2.mono (by simp))
  have HFl := Lib.hid (h.keep hb); have HS := Lib.hid (hl.keep hb)
  have HX := Lib.hid hx1; have HX2 := Lib.hid hx2; have HB := Lib.hid hb; have HOk := Lib.hid hok; have HOc := Lib.hid hoc; have HL1 := Lib.hid hl1; have HL2 := Lib.hid hl2; have HNx := Lib.hid hn
  obtain ⟨n, l, c⟩ := f
  simp only at HS HX HX2 HB HFl HOk HOc HL1 HL2 HNx ⊢
  clear hl hc hb1 hb2 hx1 hx2 hb h hok hoc hl1 hl2 hn
  go_enter Tryz.func12, Tryz.ntmps12
  go_upto_region 1 with fail
  generalize (w.alloc (.cells #[.int .i64 n, _, _] 25)).alloc _ = W at HFl HS HX HX2 HB ⊢
  generalize hN2 : w.heap.size + 1 = N2 at HX2 ⊢
  obtain ⟨N, hN⟩ : ∃ N, w.heap.size = N := ⟨_, rfl⟩
  rw [hN] at HX ⊢
  have HNN := Lib.hid (And.intro hN hN2)
  clear hN hN2
  have hd : Below W.heap.size W W.drew := ⟨rfl, rfl, rfl, Nat.le_refl _, fun _ _ => rfl⟩
  have HD := Lib.hid hd
  have HA1 : Hid (∀ o, Below W.heap.size W (W.alloc o).drew) := Lib.hid (fun o => below_drew ((Below.refl _ W).alloc (Nat.le_refl _) o))
  have HNl := Lib.hid HX.out.lt
  have HS0 : Hid (∀ u, Below W.heap.size W u → u.cell? ⟨N, 1, none⟩ = some vl) := Lib.hid (fun u hu => (HX.out.keep hu).cells.2.1)
  have HZ0 : Hid ((W.alloc (.cells (fc zeroFr).toArray 38)).drew.heap[W.heap.size]? = some (.cells (fc zeroFr).toArray 38 (0, 0))) := Lib.hid (alloc_at W _)
  obtain ⟨e1, e2, e3⟩ := HX.out.cells
  have e2' := HS0.out _ HD.out
  clear hd
  go_region_held3 (fun u => u.cell? ⟨N, 1, none⟩ = some vl)
    (first | exact e2' | exact HS0.out _ HD.out | exact HS0.out _ (HA1.out _) | exact HS0.out _ HB3.out | exact HS0.out _ (HB3.out.alloc HB3.out.size _) | exact HS0.out _ HB4.out | exact HS0.out _ (HB4.out.alloc HB4.out.size _) | exact (cell_set4 _ _ _ _ HNA.out _ _ _ _).trans (HS0.out _ HB4.out))
    (first
      | ((go_at_call 35; refine (numbered_any k _).mono ?_);
         (rintro e w3 ⟨lb, g, rfl, hm, hb3⟩);
         (have HB3 : Hid (Below W.heap.size W w3) := Lib.hid (by first | exact HD.out.trans (hb3.mono HD.out.size) | exact (HA1.out _).trans (hb3.mono (HA1.out _).size)));
         (first | (have HZ3 : Hid (w3.heap[W.heap.size]? = some (.cells (fc zeroFr).toArray 38 (0, 0))) := Lib.hid ((hb3.block _ (by simp)).trans HZ0.out)) | skip);
         (have HM := Lib.hid hm);
         (have HFa : Hid (∀ u, Below w3.heap.size w3 u → Calls Tryz.prog 34 #[vl, .func (.func g) #[] lb] u (FirstS u (fun x => x.num == k) l)) := Lib.hid (fun u hu => first_any vl (.func (.func g) #[] lb) l (fun x => x.num == k) u (HS.out.keep (HB3.out.trans (hu.mono HB3.out.size))) HOk.out (HM.out.keep hu)));
         (clear hm hb3))
      | ((go_at_call 34; first | with_reducible refine (HFa.out w3 (Below.refl _ _)).mono ?_ | with_reducible refine (HFa.out _ (below_new w3 _)).mono ?_);
         (rintro e w4 hf4; obtain ⟨i, x, b, rfl, hv, hb4⟩ := first_v hf4; obtain ⟨xn, xs, xd, xb⟩ := x);
         (have HV := Lib.hid hv);
         (have HB4 : Hid (Below W.heap.size W w4) := Lib.hid (by first | exact HB3.out.trans (hb4.mono HB3.out.size) | exact (HB3.out.alloc HB3.out.size _).trans (hb4.mono (HB3.out.alloc HB3.out.size _).size)));
         (first
           | (have hz4 := (hb4.block _ (Array.getElem?_eq_some_iff.1 HZ3.out).1).trans HZ3.out; have HAb : Hid (W.heap.size ≤ W.heap.size) := Lib.hid (Nat.le_refl _); have HNA : Hid (¬ N = W.heap.size) := Lib.hid (Nat.ne_of_lt HNl.out); obtain ⟨c0, c1, c2, c3⟩ := fcells_at (x := zeroFr) (range_of_cells hz4); obtain ⟨m0, m1, m2, m3⟩ := thaw_cells hz4; simp only [Nat.zero_add] at c0 c1 c2 c3; have HZ4 := Lib.hid hz4; clear hz4)
           | (have hz4 := (hb4.block _ (by simp)).trans (alloc_at w3 (.cells (fc zeroFr).toArray 38)); have HAb : Hid (W.heap.size ≤ w3.heap.size) := Lib.hid HB3.out.size; have HNA : Hid (¬ N = w3.heap.size) := Lib.hid (Nat.ne_of_lt (Nat.lt_of_lt_of_le HNl.out HB3.out.size)); obtain ⟨c0, c1, c2, c3⟩ := fcells_at (x := zeroFr) (range_of_cells hz4); obtain ⟨m0, m1, m2, m3⟩ := thaw_cells hz4; simp only [Nat.zero_add] at c0 c1 c2 c3; have HZ4 := Lib.hid hz4; clear hz4)
           | skip);
         (clear hf4 hv hb4; unfold fval; simp only)))
  all_goals
    first
    | (have hz := set4_at (N := W.heap.size) HZ4.out (.int .i64 xn) (.int .i64 xs) (.int .i64 xd) (.string xb)
       have hw5 := below_set4 (N := W.heap.size) HB4.out HAb.out (.int .i64 xn) (.int .i64 xs) (.int .i64 xd) (.string xb)
       clear c0 c1 c2 c3 m0 m1 m2 m3
       generalize ((((w4.setCell ⟨W.heap.size, 0, none⟩ (.int .i64 xn)).setCell ⟨W.heap.size, 1, none⟩ (.int .i64 xs)).setCell ⟨W.heap.size, 2, none⟩ (.int .i64 xd)).setCell ⟨W.heap.size, 3, none⟩ (.string xb)) = W5 at hz hw5 ⊢)
    | (have hz := set4_at (N := w3.heap.size) HZ4.out (.int .i64 xn) (.int .i64 xs) (.int .i64 xd) (.string xb)
       have hw5 := below_set4 (N := w3.heap.size) HB4.out HAb.out (.int .i64 xn) (.int .i64 xs) (.int .i64 xd) (.string xb)
       clear c0 c1 c2 c3 m0 m1 m2 m3
       generalize ((((w4.setCell ⟨w3.heap.size, 0, none⟩ (.int .i64 xn)).setCell ⟨w3.heap.size, 1, none⟩ (.int .i64 xs)).setCell ⟨w3.heap.size, 2, none⟩ (.int .i64 xd)).setCell ⟨w3.heap.size, 3, none⟩ (.string xb)) = W5 at hz hw5 ⊢)
    | (have hz := alloc_at w4 (.cells #[.int .i64 xn, .int .i64 xs, .int .i64 xd, .string xb] 38)
       have hw5 := HB4.out.alloc HB4.out.size (.cells #[.int .i64 xn, .int .i64 xs, .int .i64 xd, .string xb] 38)
       generalize (w4.alloc (.cells #[.int .i64 xn, .int .i64 xs, .int .i64 xd, .string xb] 38)) = W5 at hz hw5 ⊢)
    have HFl5 := Lib.hid (HFl.out.keep hw5); have HX5 := Lib.hid (HX.out.keep hw5); have HX25 := Lib.hid (HX2.out.keep hw5)
    have HB5 := Lib.hid (HB.out.trans (hw5.mono HB.out.size)); have HZ5 := Lib.hid hz
    clear e1 e2 e3 e2' hw5 hz
    obtain ⟨e1, e2, e3⟩ := HX5.out.cells
    cases b with
    | false =>
      have HP : Hid (dblE ⟨n, l, c⟩ k = (⟨n, l, c⟩, 0, 24)) := by show _ = _; unfold dblE; rw [(HV.out.no rfl).1]
      go_wp2_with fail
      refine (copied_any _ ⟨n, l, c⟩ W5 HFl5.out HL1.out HL2.out).mono ?_
      rintro e w6 ⟨vl2, vc2, rfl, ho1, ho2, hb2⟩
      simp only at ho1 ho2 ⊢
      obtain ⟨a1, c1, rfl⟩ := ho1.slice
      obtain ⟨a2, c2, rfl⟩ := ho2.slice
      have HX26 := Lib.hid (HX25.out.keep hb2)
      have HO1 := Lib.hid ho1; have HO2 := Lib.hid ho2; have HB6 := Lib.hid (HB5.out.trans (hb2.mono HB5.out.size))
      clear e1 e2 e3 ho1 ho2 hb2
      obtain ⟨k1, k2, k3⟩ := HX26.out.cells
      obtain ⟨f1, f2, f3⟩ := HX26.out.thaw
      go_wp2
      have hlt := HX25.out.lt
      have hF := HX26.out.set n (.slice a1 l.length c1) (.slice a2 c.length c2)
      have hO1 := (HO1.out.set3 hlt (.int .i64 n) (.slice a1 l.length c1) (.slice a2 c.length c2)).mono (show w.heap.size ≤ W5.heap.size from HB5.out.size)
      have hO2 := (HO2.out.set3 hlt (.int .i64 n) (.slice a1 l.length c1) (.slice a2 c.length c2)).mono (show w.heap.size ≤ W5.heap.size from HB5.out.size)
      have hB := below_set3 HB6.out (show w.heap.size ≤ N2 by have := HNN.out; omega) (.int .i64 n) (.slice a1 l.length c1) (.slice a2 c.length c2)
      refine bodyPost_ret (retF3 rfl rfl hF) rfl ?_
      unfold ThreeS
      rw [HP.out]
      exact ⟨_, _, rfl, hO1, hO2, hB⟩
    | true =>
      obtain ⟨kk, hk, -, hxx, hf, -, -⟩ := HV.out.yes rfl
      obtain ⟨r, hr⟩ : ∃ r, putE ⟨n, l, c⟩ xs xd xb = r := ⟨_, rfl⟩
      have HP : Hid (dblE ⟨n, l, c⟩ k = r) := by show _ = _; unfold dblE; simp only; rw [hf]; exact hr
      have HXo : Hid (Wy.Ok (xs, xd)) := by
        have hxo := HOk.out _ (List.getElem_mem hk)
        rw [← hxx] at hxo
        exact ⟨by have := hxo.2.1; unfold I64 at this; simp only at this ⊢; omega, by have := hxo.2.2; unfold I64 at this; simp only at this ⊢; omega⟩
      have HR := Lib.hid hr
      clear hxx hf hk hr
      obtain ⟨z0, z1, z2, z3⟩ := cells_at4 HZ5.out
      go_wp2_with fail
      refine (Put_any _ ⟨n, l, c⟩ xs xd xb W5 HFl5.out HOc.out HXo.out HL1.out HL2.out HNx.out).mono ?_
      rw [HR.out]
      obtain ⟨⟨n2, l2, c2⟩, q2, r2⟩ := r
      rintro e w6 ⟨vl2, vc2, rfl, ho1, ho2, hb2⟩
      simp only at ho1 ho2 ⊢
      obtain ⟨a1, d1, rfl⟩ := ho1.slice
      obtain ⟨a2, d2, rfl⟩ := ho2.slice
      have HX26 := Lib.hid (HX25.out.keep hb2)
      have HO1 := Lib.hid ho1; have HO2 := Lib.hid ho2; have HB6 := Lib.hid (HB5.out.trans (hb2.mono HB5.out.size))
      clear e1 e2 e3 ho1 ho2 hb2 z0 z1 z2 z3
      obtain ⟨k1, k2, k3⟩ := HX26.out.cells
      obtain ⟨f1, f2, f3⟩ := HX26.out.thaw
      go_wp2
      have hlt := HX25.out.lt
      have hF := HX26.out.set n2 (.slice a1 l2.length d1) (.slice a2 c2.length d2)
      have hO1 := (HO1.out.set3 hlt (.int .i64 n2) (.slice a1 l2.length d1) (.slice a2 c2.length d2)).mono (show w.heap.size ≤ W5.heap.size from HB5.out.size)
      have hO2 := (HO2.out.set3 hlt (.int .i64 n2) (.slice a1 l2.length d1) (.slice a2 c2.length d2)).mono (show w.heap.size ≤ W5.heap.size from HB5.out.size)
      have hB := below_set3 HB6.out (show w.heap.size ≤ N2 by have := HNN.out; omega) (.int .i64 n2) (.slice a1 l2.length d1) (.slice a2 c2.length d2)
      refine bodyPost_ret (retF3 rfl rfl hF) rfl ?_
      unfold ThreeS
      rw [HP.out]
      exact ⟨_, _, rfl, hO1, hO2, hB⟩

end Go.Proofs.YtalnmbfmfeaohaaGreat.flight
