/- Take: a frame is taken out. -/
import Derived.Test.YtalnmbfmfeaohaaGreatRows
import Derived.Test.YtalnmbfmfeaohaaGreatFlightDelAt
import Derived.Test.YtalnmbfmfeaohaaGreatFlightDbl
import Derived.Test.YtalnmbfmfeaohaaGreatFlightCut
namespace Go.Proofs.YtalnmbfmfeaohaaGreat.flight
open Go.RowKit
open Go.Proofs.YtalnmbfmfeaohaaGreat.kit Go.Proofs.YtalnmbfmfeaohaaGreat.own
set_option linter.unusedVariables false

/-- What Take tells. -/
def takeE (f : Flt) (k : Int) : Flt × Frm × Int := match f.list.find? (fun x => x.num == k) with
  | none => (f, zeroFr, 24)
  | some x => (⟨f.next, f.list.eraseP (fun x => x.num == k), f.cut⟩, x, 0)
theorem eraseP_idx {α : Type} (p : α → Bool) : ∀ (l : List α) (i : Nat) (hi : i < l.length), p l[i] = true → (∀ j (hj : j < i), p (l[j]'(by omega)) = false) → l.eraseIdx i = l.eraseP p
  | x :: r, 0, _, h, _ => by
    simp only [List.getElem_cons_zero] at h
    rw [List.eraseIdx_cons_zero, List.eraseP_cons, h]; rfl
  | x :: r, i + 1, hi, h, hn => by
    have h0 := hn 0 (by omega)
    simp only [List.getElem_cons_zero] at h0
    rw [List.eraseIdx_cons_succ, List.eraseP_cons, h0]
    show x :: _ = x :: _
    rw [eraseP_idx p r i (by simpa using hi) (by simpa using h) (fun j hj => by simpa using hn (j + 1) (by omega))]
/-- A flight, a frame and a number are handed back, the rows the call's own. -/
def TakeS (w : World) (r : Flt × Frm × Int) (e : Ending) (w' : World) : Prop := ∃ vl vc, e = .returned (.tuple #[.agg #[.int .i64 r.1.next, vl, vc], fval r.2.1, .int .i64 r.2.2]) ∧ Own fc 4 38 w' w.heap.size vl r.1.list ∧ Own wc 2 40 w' w.heap.size vc r.1.cut ∧ Below w.heap.size w w'
theorem retFF {fn : Func} {t u x : Tmp} {tmps : Array Value} {w : World} {N N5 : Nat} {n : Int} {vl vc : Value} {y : Frm} (h : fn.results = #[.cell t 25, .cell u 38, .tmp x]) (ht : tmps.getD t undef = .pointer (some ⟨N, 0, none⟩)) (hu : tmps.getD u undef = .pointer (some ⟨N5, 0, none⟩)) (hx : FBox w N n vl vc) (hy : w.rangeAt N5 0 (fc y)) :
    (results fn tmps).run Tryz.prog w = .ok (.tuple #[.agg #[.int .i64 n, vl, vc], fval y, tmps.getD x undef]) w := by
  have hr := run_loadVar_mid (P := Tryz.prog) w N 0 25 [.int .i64 n, vl, vc] _ hx.range Tryz.underlying25 rfl sizeFlt
  have hr2 := run_loadVar_mid (P := Tryz.prog) w N5 0 38 (fc y) _ hy Tryz.underlying38 rfl sizeFrm
  have ht' : tmps[t]?.getD undef = .pointer (some ⟨N, 0, none⟩) := by simpa using ht
  have hu' : tmps[u]?.getD undef = .pointer (some ⟨N5, 0, none⟩) := by simpa using hu
  simp [results, h, ht', hu', asAddr, hr, hr2, fval, fc]

/-- A flight and a frame are laid into their boxes. -/
theorem lay_two {w W : World} {N2 N5 : Nat} {v1 v2 vl vc : Value} {n0 : Int} {l : List Frm} {c : List Wy} {p q r s : Value} (y : Frm) (h2 : FBox W N2 n0 v1 v2) (h5 : W.heap[N5]? = some (.cells #[p, q, r, s] 38 (0, 0))) (hne : N2 ≠ N5)
    (ho1 : Own fc 4 38 W w.heap.size vl l) (ho2 : Own wc 2 40 W w.heap.size vc c) (hb1 : vl.ownBlock ≠ some N2 ∧ vl.ownBlock ≠ some N5) (hb2 : vc.ownBlock ≠ some N2 ∧ vc.ownBlock ≠ some N5) (hb : Below w.heap.size w W) (hl2 : w.heap.size ≤ N2) (hl5 : w.heap.size ≤ N5) (n : Int) :
    FBox (((((((W.setCell ⟨N2, 0, none⟩ (.int .i64 n)).setCell ⟨N2, 1, none⟩ vl).setCell ⟨N2, 2, none⟩ vc).setCell ⟨N5, 0, none⟩ (.int .i64 y.num)).setCell ⟨N5, 1, none⟩ (.int .i64 y.src)).setCell ⟨N5, 2, none⟩ (.int .i64 y.dst)).setCell ⟨N5, 3, none⟩ (.string y.body)) N2 n vl vc ∧
    (((((((W.setCell ⟨N2, 0, none⟩ (.int .i64 n)).setCell ⟨N2, 1, none⟩ vl).setCell ⟨N2, 2, none⟩ vc).setCell ⟨N5, 0, none⟩ (.int .i64 y.num)).setCell ⟨N5, 1, none⟩ (.int .i64 y.src)).setCell ⟨N5, 2, none⟩ (.int .i64 y.dst)).setCell ⟨N5, 3, none⟩ (.string y.body)).rangeAt N5 0 (fc y) ∧
    Own fc 4 38 (((((((W.setCell ⟨N2, 0, none⟩ (.int .i64 n)).setCell ⟨N2, 1, none⟩ vl).setCell ⟨N2, 2, none⟩ vc).setCell ⟨N5, 0, none⟩ (.int .i64 y.num)).setCell ⟨N5, 1, none⟩ (.int .i64 y.src)).setCell ⟨N5, 2, none⟩ (.int .i64 y.dst)).setCell ⟨N5, 3, none⟩ (.string y.body)) w.heap.size vl l ∧
    Own wc 2 40 (((((((W.setCell ⟨N2, 0, none⟩ (.int .i64 n)).setCell ⟨N2, 1, none⟩ vl).setCell ⟨N2, 2, none⟩ vc).setCell ⟨N5, 0, none⟩ (.int .i64 y.num)).setCell ⟨N5, 1, none⟩ (.int .i64 y.src)).setCell ⟨N5, 2, none⟩ (.int .i64 y.dst)).setCell ⟨N5, 3, none⟩ (.string y.body)) w.heap.size vc c ∧
    Below w.heap.size w (((((((W.setCell ⟨N2, 0, none⟩ (.int .i64 n)).setCell ⟨N2, 1, none⟩ vl).setCell ⟨N2, 2, none⟩ vc).setCell ⟨N5, 0, none⟩ (.int .i64 y.num)).setCell ⟨N5, 1, none⟩ (.int .i64 y.src)).setCell ⟨N5, 2, none⟩ (.int .i64 y.dst)).setCell ⟨N5, 3, none⟩ (.string y.body)) := by
  have k3 : ∀ j, j ≠ N2 → (((W.setCell ⟨N2, 0, none⟩ (.int .i64 n)).setCell ⟨N2, 1, none⟩ vl).setCell ⟨N2, 2, none⟩ vc).heap[j]? = W.heap[j]? := fun j hj => by
    rw [heap_setCell_other _ _ _ _ hj, heap_setCell_other _ _ _ _ hj, heap_setCell_other _ _ _ _ hj]
  have h5' := (k3 N5 hne.symm).trans h5
  have hF := h2.set n vl vc
  have o1 := ((ho1.setOther hb1.1 0 (.int .i64 n)).setOther hb1.1 1 vl).setOther hb1.1 2 vc
  have o2 := ((ho2.setOther hb2.1 0 (.int .i64 n)).setOther hb2.1 1 vl).setOther hb2.1 2 vc
  have b2 := below_set3 hb hl2 (.int .i64 n) vl vc
  generalize (((W.setCell ⟨N2, 0, none⟩ (.int .i64 n)).setCell ⟨N2, 1, none⟩ vl).setCell ⟨N2, 2, none⟩ vc) = V at h5' hF o1 o2 b2 ⊢
  have h9 := set4_at h5' (.int .i64 y.num) (.int .i64 y.src) (.int .i64 y.dst) (.string y.body)
  refine ⟨?_, range_of_cells h9, (((o1.setOther hb1.2 _ _).setOther hb1.2 _ _).setOther hb1.2 _ _).setOther hb1.2 _ _, (((o2.setOther hb2.2 _ _).setOther hb2.2 _ _).setOther hb2.2 _ _).setOther hb2.2 _ _, below_set4 b2 hl5 _ _ _ _⟩
  unfold FBox
  rw [heap_setCell_other _ _ _ _ hne, heap_setCell_other _ _ _ _ hne, heap_setCell_other _ _ _ _ hne, heap_setCell_other _ _ _ _ hne]
  exact hF

set_option maxHeartbeats 16000000 in
set_option maxRecDepth 100000 in
theorem Take_any (v : Value) (f : Flt) (k : Int) (w : World) (h : FlR w v f) (hf : f.Fits) :
    Calls Tryz.prog 18 #[v, .int .i64 k] w (TakeS w (takeE f k)) := by
  have hfl := hf.len
  obtain ⟨vl, vc, rfl, hl, hc⟩ := id h
  have hb1 := below_new w (.cells #[.int .i64 f.next, vl, vc] 25)
  have hb2 := below_new (w.alloc (.cells #[.int .i64 f.next, vl, vc] 25)) (.cells #[.int .i64 0, .slice none 0 0, .slice none 0 0] 25)
  have hb3 := below_new ((w.alloc (.cells #[.int .i64 f.next, vl, vc] 25)).alloc (.cells #[.int .i64 0, .slice none 0 0, .slice none 0 0] 25)) (.cells #[.int .i64 0, .int .i64 0, .int .i64 0, .string { data := #[] }] 38)
  have hx1 := ((fbox_new w f.next vl vc).keep hb2).keep hb3
  have hx2 := (fbox_new (w.alloc (.cells #[.int .i64 f.next, vl, vc] 25)) 0 (.slice none 0 0) (.slice none 0 0)).keep hb3
  have hx5 := alloc_at ((w.alloc (.cells #[.int .i64 f.next, vl, vc] 25)).alloc (.cells #[.int .i64 0, .slice none 0 0, .slice none 0 0] 25)) (.cells #[.int .i64 0, .int .i64 0, .int .i64 0, .string { data := #[] }] 38)
  simp only [World.size_alloc] at hx2 hx5
  have hb := (hb1.trans (hb2.mono (by simp))).trans (hb3.mono (by simp; omega))
  have HFl := Lib.hid (h.keep hb); have HS := Lib.hid (hl.keep hb)
  have HX := Lib.hid hx1; have HX2 := Lib.hid hx2; have HX5 := Lib.hid hx5; have HB := Lib.hid hb; have HFt := Lib.hid hf
  obtain ⟨n, l, c⟩ := f
  simp only at HS HX HX2 HB HFl HFt hfl ⊢
  have HLn := Lib.hid hfl
  clear hl hc hb1 hb2 hb3 hx1 hx2 hx5 hb h hf hfl
  go_enter Tryz.func18, Tryz.ntmps18
  go_upto_region 1 with fail
  simp only [Nat.add_assoc, Nat.reduceAdd] at HX5 ⊢
  generalize ((w.alloc (.cells #[.int .i64 n, _, _] 25)).alloc _).alloc _ = W at HFl HS HX HX2 HX5 HB ⊢
  generalize hN2 : w.heap.size + 1 = N2 at HX2 ⊢
  generalize hN5 : w.heap.size + 2 = N5 at HX5 ⊢
  obtain ⟨N, hN⟩ : ∃ N, w.heap.size = N := ⟨_, rfl⟩
  rw [hN] at HX ⊢
  have HNN := Lib.hid (show N2 = N + 1 ∧ N5 = N + 2 ∧ w.heap.size = N from ⟨by omega, by omega, hN⟩)
  clear hN hN2 hN5
  obtain ⟨e1, e2, e3⟩ := HX.out.cells
  go_wp2_with fail
  refine (copied_any _ ⟨n, l, c⟩ W HFl.out HFt.out.len HFt.out.clen).mono ?_
  rintro e w1 ⟨vl1, vc1, rfl, ho1, ho2, hb1⟩
  simp only at ho1 ho2 ⊢
  obtain ⟨a1, c1, rfl⟩ := ho1.slice
  obtain ⟨a2, c2, rfl⟩ := ho2.slice
  have hb3 := below_new w1 (.cells #[.int .i64 n, .slice a1 l.length c1, .slice a2 c.length c2] 25)
  have hbb := hb1.trans (hb3.mono hb1.size)
  have HX3 := Lib.hid (fbox_new w1 n (.slice a1 l.length c1) (.slice a2 c.length c2))
  have HX1' := Lib.hid (HX.out.keep hbb); have HX2' := Lib.hid (HX2.out.keep hbb)
  have HX5' := Lib.hid ((hbb.block _ (Array.getElem?_eq_some_iff.1 HX5.out).1).trans HX5.out)
  have HS1' := Lib.hid (HS.out.keep hbb)
  have HO1 := Lib.hid (ho1.below hb3); have HO2 := Lib.hid (ho2.below hb3)
  have HBlk1 := Lib.hid ho1.blk; have HBlk2 := Lib.hid ho2.blk
  have HB3 := Lib.hid (HB.out.trans (hbb.mono HB.out.size))
  have HSz := Lib.hid hb1.size
  have HDj : Hid ((Value.slice a2 c.length c2).ownBlock = none ∨ (Value.slice a2 c.length c2).ownBlock ≠ (Value.slice a1 l.length c1).ownBlock) := HDisj ho1 ho2
  clear ho1 ho2 hb1 hb3 hbb e1 e2 e3
  go_upto_region 2 with fail
  generalize (w1.alloc (.cells #[.int .i64 n, .slice a1 l.length c1, .slice a2 c.length c2] 25)) = W1 at HX3 HX1' HX2' HX5' HS1' HO1 HO2 HB3 ⊢
  generalize hN3 : w1.heap.size = N3 at HX3 HBlk1 HBlk2 HSz ⊢
  clear hN3
  have hd : Below W1.heap.size W1 W1.drew := ⟨rfl, rfl, rfl, Nat.le_refl _, fun _ _ => rfl⟩
  have HD := Lib.hid hd
  have HA1 : Hid (∀ o, Below W1.heap.size W1 (W1.alloc o).drew) := Lib.hid (fun o => below_drew ((Below.refl _ W1).alloc (Nat.le_refl _) o))
  have HNl := Lib.hid HX1'.out.lt
  have HS0 : Hid (∀ u, Below W1.heap.size W1 u → u.cell? ⟨N, 1, none⟩ = some vl) := Lib.hid (fun u hu => (HX1'.out.keep hu).cells.2.1)
  have HZ0 : Hid ((W1.alloc (.cells (fc zeroFr).toArray 38)).drew.heap[W1.heap.size]? = some (.cells (fc zeroFr).toArray 38 (0, 0))) := Lib.hid (alloc_at W1 _)
  obtain ⟨e1, e2, e3⟩ := HX1'.out.cells
  have e2' := HS0.out _ HD.out
  clear hd
  go_region_held3 (fun u => u.cell? ⟨N, 1, none⟩ = some vl)
    (first | exact e2' | exact HS0.out _ HD.out | exact HS0.out _ (HA1.out _) | exact HS0.out _ HB4.out | exact HS0.out _ (HB4.out.alloc HB4.out.size _) | exact HS0.out _ HB5.out | exact HS0.out _ (HB5.out.alloc HB5.out.size _) | exact (cell_set4 _ _ _ _ HNA.out _ _ _ _).trans (HS0.out _ HB5.out))
    (first
      | ((go_at_call 35; refine (numbered_any k _).mono ?_);
         (rintro e w3 ⟨lb, g, rfl, hm, hb3⟩);
         (have HB4 : Hid (Below W1.heap.size W1 w3) := Lib.hid (by first | exact HD.out.trans (hb3.mono HD.out.size) | exact (HA1.out _).trans (hb3.mono (HA1.out _).size)));
         (first | (have HZ3 : Hid (w3.heap[W1.heap.size]? = some (.cells (fc zeroFr).toArray 38 (0, 0))) := Lib.hid ((hb3.block _ (by simp)).trans HZ0.out)) | skip);
         (have HM := Lib.hid hm);
         (have HFa : Hid (∀ u, Below w3.heap.size w3 u → Calls Tryz.prog 34 #[vl, .func (.func g) #[] lb] u (FirstS u (fun x => x.num == k) l)) := Lib.hid (fun u hu => first_any vl (.func (.func g) #[] lb) l (fun x => x.num == k) u (HS1'.out.keep (HB4.out.trans (hu.mono HB4.out.size))) HFt.out.num (HM.out.keep hu)));
         (clear hm hb3))
      | ((go_at_call 34; first | with_reducible refine (HFa.out w3 (Below.refl _ _)).mono ?_ | with_reducible refine (HFa.out _ (below_new w3 _)).mono ?_);
         (rintro e w4 hf4; obtain ⟨i, x, b, rfl, hv, hb4⟩ := first_v hf4; obtain ⟨xn, xs, xd, xb⟩ := x);
         (have HV := Lib.hid hv);
         (have HB5 : Hid (Below W1.heap.size W1 w4) := Lib.hid (by first | exact HB4.out.trans (hb4.mono HB4.out.size) | exact (HB4.out.alloc HB4.out.size _).trans (hb4.mono (HB4.out.alloc HB4.out.size _).size)));
         (first
           | (have hz4 := (hb4.block _ (Array.getElem?_eq_some_iff.1 HZ3.out).1).trans HZ3.out; have HAb : Hid (W1.heap.size ≤ W1.heap.size) := Lib.hid (Nat.le_refl _); have HNA : Hid (¬ N = W1.heap.size) := Lib.hid (Nat.ne_of_lt HNl.out); obtain ⟨c0, c1, c2, c3⟩ := fcells_at (x := zeroFr) (range_of_cells hz4); obtain ⟨m0, m1, m2, m3⟩ := thaw_cells hz4; simp only [Nat.zero_add] at c0 c1 c2 c3; have HZ4 := Lib.hid hz4; clear hz4)
           | (have hz4 := (hb4.block _ (by simp)).trans (alloc_at w3 (.cells (fc zeroFr).toArray 38)); have HAb : Hid (W1.heap.size ≤ w3.heap.size) := Lib.hid HB4.out.size; have HNA : Hid (¬ N = w3.heap.size) := Lib.hid (Nat.ne_of_lt (Nat.lt_of_lt_of_le HNl.out HB4.out.size)); obtain ⟨c0, c1, c2, c3⟩ := fcells_at (x := zeroFr) (range_of_cells hz4); obtain ⟨m0, m1, m2, m3⟩ := thaw_cells hz4; simp only [Nat.zero_add] at c0 c1 c2 c3; have HZ4 := Lib.hid hz4; clear hz4)
           | skip);
         (clear hf4 hv hb4; unfold fval; simp only)))
  all_goals
    first
    | (have hz := set4_at (N := W1.heap.size) HZ4.out (.int .i64 xn) (.int .i64 xs) (.int .i64 xd) (.string xb)
       have hw5 := below_set4 (N := W1.heap.size) HB5.out HAb.out (.int .i64 xn) (.int .i64 xs) (.int .i64 xd) (.string xb)
       clear c0 c1 c2 c3 m0 m1 m2 m3
       have HRX := Lib.hid HAb.out
       generalize ((((w4.setCell ⟨W1.heap.size, 0, none⟩ (.int .i64 xn)).setCell ⟨W1.heap.size, 1, none⟩ (.int .i64 xs)).setCell ⟨W1.heap.size, 2, none⟩ (.int .i64 xd)).setCell ⟨W1.heap.size, 3, none⟩ (.string xb)) = W5 at hz hw5 ⊢
       generalize hRX : W1.heap.size = RX at hz HRX ⊢)
    | (have hz := set4_at (N := w3.heap.size) HZ4.out (.int .i64 xn) (.int .i64 xs) (.int .i64 xd) (.string xb)
       have hw5 := below_set4 (N := w3.heap.size) HB5.out HAb.out (.int .i64 xn) (.int .i64 xs) (.int .i64 xd) (.string xb)
       clear c0 c1 c2 c3 m0 m1 m2 m3
       have HRX := Lib.hid HAb.out
       generalize ((((w4.setCell ⟨w3.heap.size, 0, none⟩ (.int .i64 xn)).setCell ⟨w3.heap.size, 1, none⟩ (.int .i64 xs)).setCell ⟨w3.heap.size, 2, none⟩ (.int .i64 xd)).setCell ⟨w3.heap.size, 3, none⟩ (.string xb)) = W5 at hz hw5 ⊢
       generalize hRX : w3.heap.size = RX at hz HRX ⊢)
    | (have hz := alloc_at w4 (.cells #[.int .i64 xn, .int .i64 xs, .int .i64 xd, .string xb] 38)
       have hw5 := HB5.out.alloc HB5.out.size (.cells #[.int .i64 xn, .int .i64 xs, .int .i64 xd, .string xb] 38)
       have HRX := Lib.hid HB5.out.size
       generalize (w4.alloc (.cells #[.int .i64 xn, .int .i64 xs, .int .i64 xd, .string xb] 38)) = W5 at hz hw5 ⊢
       generalize hRX : w4.heap.size = RX at hz HRX ⊢)
    have HX35 := Lib.hid (HX3.out.keep hw5); have HX25 := Lib.hid (HX2'.out.keep hw5)
    have HX55 := Lib.hid ((hw5.block _ (Array.getElem?_eq_some_iff.1 HX5'.out).1).trans HX5'.out)
    have HO15 := Lib.hid ((HO1.out.below hw5).mono HB.out.size); have HO25 := Lib.hid ((HO2.out.below hw5).mono HB.out.size)
    have HB6 := Lib.hid (HB3.out.trans (hw5.mono HB3.out.size))
    have HZ5 := Lib.hid hz
    have HQ := Lib.hid (show N2 < W.heap.size ∧ N5 < W.heap.size ∧ W.heap.size ≤ N3 ∧ N3 < RX from ⟨HX2.out.lt, (Array.getElem?_eq_some_iff.1 HX5.out).1, HSz.out, by first | exact Nat.lt_of_lt_of_le HX3.out.lt HRX.out | (rw [← hRX]; exact HX3.out.lt)⟩)
    have HBa := Lib.hid (show (Value.slice a1 l.length c1).ownBlock ≠ some N2 ∧ (Value.slice a1 l.length c1).ownBlock ≠ some N5 from ⟨fun e => by have := HBlk1.out N2 e; have := HQ.out; omega, fun e => by have := HBlk1.out N5 e; have := HQ.out; omega⟩)
    have HBb := Lib.hid (show (Value.slice a2 c.length c2).ownBlock ≠ some N2 ∧ (Value.slice a2 c.length c2).ownBlock ≠ some N5 ∧ (Value.slice a2 c.length c2).ownBlock ≠ some N3 from ⟨fun e => by have := HBlk2.out N2 e; have := HQ.out; omega, fun e => by have := HBlk2.out N5 e; have := HQ.out; omega, fun e => by have := HBlk2.out N3 e; omega⟩)
    clear e1 e2 e3 e2' hw5 hz hRX HFl HS HX1' HX2' HX5' HX3 HO1 HO2 HB3 HD HA1 HNl HS0 HZ0 HB4 HM HFa HB5 HRX HSz
    have q1 : ¬ N2 = N5 := by have := HNN.out; omega
    have q2 : ¬ N5 = N2 := by omega
    have q3 : ¬ N3 = N2 := by have := HQ.out; omega
    have q4 : ¬ N2 = N3 := by omega
    have q5 : ¬ N3 = N5 := by have := HQ.out; omega
    have q6 : ¬ N5 = N3 := by omega
    have q7 : ¬ RX = N2 := by have := HQ.out; omega
    have q8 : ¬ N2 = RX := by omega
    have q9 : ¬ RX = N5 := by have := HQ.out; omega
    have q10 : ¬ N5 = RX := by omega
    have q11 : ¬ RX = N3 := by have := HQ.out; omega
    have q12 : ¬ N3 = RX := by omega
    cases b with
    | false =>
      have HP : Hid (takeE ⟨n, l, c⟩ k = (⟨n, l, c⟩, zeroFr, 24)) := by show _ = _; unfold takeE; rw [(HV.out.no rfl).1]
      obtain ⟨e1, e2, e3⟩ := HX35.out.cells
      obtain ⟨k1, k2, k3⟩ := HX25.out.cells
      obtain ⟨f1, f2, f3⟩ := HX25.out.thaw
      obtain ⟨z0, z1, z2, z3⟩ := cells_at4 HX55.out
      obtain ⟨m0, m1, m2, m3⟩ := thaw_cells HX55.out
      go_wp2
      obtain ⟨p1, p2, p3, p4, p5⟩ := lay_two (w := w) zeroFr HX25.out HX55.out q1 HO15.out HO25.out HBa.out ⟨HBb.out.1, HBb.out.2.1⟩ HB6.out (by have := HNN.out; omega) (by have := HNN.out; omega) n
      refine bodyPost_ret (retFF rfl rfl rfl p1 p2) rfl ?_
      unfold TakeS
      rw [HP.out]
      exact ⟨_, _, rfl, p3, p4, p5⟩
    | true =>
      obtain ⟨kk, hk, rfl, hxx, hf, hp, hno⟩ := HV.out.yes rfl
      have HP : Hid (takeE ⟨n, l, c⟩ k = (⟨n, l.eraseIdx kk, c⟩, ⟨xn, xs, xd, xb⟩, 0)) := by
        show _ = _
        unfold takeE
        simp only
        rw [hf]
        simp only
        rw [eraseP_idx (fun x => x.num == k) l kk hk (by rw [← hxx]; exact hp) hno]
      have HK := Lib.hid hk
      rcases HO15.out.at with ⟨-, h0⟩ | ⟨g1, cap1, hv1, hB1', hat1⟩
      · exfalso; rw [h0] at hk; simp at hk
      obtain ⟨rfl, rfl⟩ : a1 = some ⟨g1, 0, none⟩ ∧ c1 = cap1 := by cases hv1; exact ⟨rfl, rfl⟩
      have HGN := Lib.hid (HBlk1.out g1 rfl)
      have hdel : Calls Tryz.prog 42 #[.slice (some ⟨g1, 0, none⟩) l.length c1, .int .i64 kk, .int .i64 ((kk : Int) + 1)] W5 fun e w' => e = .returned (.slice (some ⟨g1, 0, none⟩) (l.eraseIdx kk).length c1) ∧ OwnAt fc 4 38 w' g1 c1 (l.eraseIdx kk) ∧ W5.grownBy w' (some g1) :=
        del1F_any g1 c1 l kk hk W5 hat1
      obtain ⟨r, hr⟩ : ∃ r, l.eraseIdx kk = r := ⟨_, rfl⟩
      rw [hr] at hdel HP
      have HDel := Lib.hid hdel
      have hwi : IntKind.i64.wrap ((kk : Int) + 1) = (kk : Int) + 1 := by rw [IntKind.wrap_i64]; have := HLn.out; omega
      have hk0 : (0 : Int) ≤ (kk : Int) + 1 := by omega
      have hk63 : (kk : Int) + 1 ≤ 9223372036854775807 := by have := HLn.out; omega
      clear hxx hf hp hno hk hv1 hB1' hat1 hdel hr
      obtain ⟨e1, e2, e3⟩ := HX35.out.cells
      obtain ⟨f1, f2, f3⟩ := HX35.out.thaw
      go_upto_region 5 with fail
      clear hk63
      go_wp2_with fail
      refine HDel.out.mono ?_
      rintro e w6 ⟨rfl, hat6, hg6⟩
      have hgo : ∀ j, j < W5.heap.size → j ≠ g1 → w6.heap[j]? = W5.heap[j]? := fun j hj hne => hg6.block _ hj (fun e => hne (by cases e; rfl))
      have gN3 : N3 ≠ g1 := by have := HGN.out; omega
      have gN2 : N2 ≠ g1 := by have := HGN.out; have := HQ.out; omega
      have gN5 : N5 ≠ g1 := by have := HGN.out; have := HQ.out; omega
      have gRX : RX ≠ g1 := by have := HGN.out; have := HQ.out; omega
      have hX36 : FBox w6 N3 n (.slice (some ⟨g1, 0, none⟩) l.length c1) (.slice a2 c.length c2) := (hgo _ HX35.out.lt gN3).trans HX35.out
      have hX26 : FBox w6 N2 0 (.slice none 0 0) (.slice none 0 0) := (hgo _ HX25.out.lt gN2).trans HX25.out
      have hX56 := (hgo _ (Array.getElem?_eq_some_iff.1 HX55.out).1 gN5).trans HX55.out
      have hZ6 := (hgo _ (Array.getElem?_eq_some_iff.1 HZ5.out).1 gRX).trans HZ5.out
      have hO16 : Own fc 4 38 w6 w.heap.size (.slice (some ⟨g1, 0, none⟩) r.length c1) r := (hat6.own fc_len (show W.heap.size ≤ g1 from HGN.out.1)).mono HB.out.size
      have hO26 := HO25.out.grown hg6 HDj.out
      have hB6 : Below w.heap.size w w6 := HB6.out.grown hg6 HB6.out.size (fun k e => by cases e; exact Nat.le_trans HB.out.size HGN.out.1)
      have hBr : (Value.slice (some ⟨g1, 0, none⟩) r.length c1).ownBlock ≠ some N2 ∧ (Value.slice (some ⟨g1, 0, none⟩) r.length c1).ownBlock ≠ some N5 ∧ (Value.slice (some ⟨g1, 0, none⟩) r.length c1).ownBlock ≠ some N3 := ⟨fun e => gN2 (by cases e; rfl), fun e => gN5 (by cases e; rfl), fun e => gN3 (by cases e; rfl)⟩
      have HX36 := Lib.hid hX36
      have HBr := Lib.hid hBr
      have hX37 : FBox (w6.setCell ⟨N3, 1, none⟩ (.slice (some ⟨g1, 0, none⟩) r.length c1)) N3 n (.slice (some ⟨g1, 0, none⟩) r.length c1) (.slice a2 c.length c2) := heap_setCell_same w6 N3 1 _ _ _ hX36
      have hX27 : FBox (w6.setCell ⟨N3, 1, none⟩ (.slice (some ⟨g1, 0, none⟩) r.length c1)) N2 0 (.slice none 0 0) (.slice none 0 0) := (heap_setCell_other _ _ _ _ q4).trans hX26
      have hX57 := (heap_setCell_other w6 ⟨N3, 1, none⟩ N5 (.slice (some ⟨g1, 0, none⟩) r.length c1) q6).trans hX56
      have hZ7 := (heap_setCell_other w6 ⟨N3, 1, none⟩ RX (.slice (some ⟨g1, 0, none⟩) r.length c1) q11).trans hZ6
      have hO17 := hO16.setOther hBr.2.2 1 (.slice (some ⟨g1, 0, none⟩) r.length c1)
      have hO27 := hO26.setOther HBb.out.2.2 1 (.slice (some ⟨g1, 0, none⟩) r.length c1)
      have hB7 := hB6.setCell (p := ⟨N3, 1, none⟩) (show w.heap.size ≤ N3 by have := HQ.out; have := HB.out.size; omega) (.slice (some ⟨g1, 0, none⟩) r.length c1)
      have HX37 := Lib.hid hX37; have HX27 := Lib.hid hX27; have HX57 := Lib.hid hX57; have HZ7 := Lib.hid hZ7; have HO17 := Lib.hid hO17; have HO27 := Lib.hid hO27; have HB7 := Lib.hid hB7
      clear e1 e2 e3 f1 f2 f3 hgo gN3 gN2 gN5 gRX hX36 hX26 hX56 hZ6 hO16 hO26 hB6 hBr hX37 hX27 hX57 hZ7 hO17 hO27 hB7 hat6 hg6 hwi hk0
      obtain ⟨e1, e2, e3⟩ := HX36.out.cells
      obtain ⟨f1, f2, f3⟩ := HX36.out.thaw
      go_upto_region 6 with fail
      clear e1 e2 e3 f1 f2 f3
      generalize w6.setCell ⟨N3, 1, none⟩ (.slice (some ⟨g1, 0, none⟩) r.length c1) = W7 at HX37 HX27 HX57 HZ7 HO17 HO27 HB7 ⊢
      obtain ⟨e1, e2, e3⟩ := HX37.out.cells
      obtain ⟨y0, y1, y2, y3⟩ := cells_at4 HZ7.out
      obtain ⟨k1, k2, k3⟩ := HX27.out.cells
      obtain ⟨f1, f2, f3⟩ := HX27.out.thaw
      obtain ⟨z0, z1, z2, z3⟩ := cells_at4 HX57.out
      obtain ⟨m0, m1, m2, m3⟩ := thaw_cells HX57.out
      go_region_with fail
      all_goals
        obtain ⟨p1, p2, p3, p4, p5⟩ := lay_two (w := w) ⟨xn, xs, xd, xb⟩ HX27.out HX57.out q1 HO17.out HO27.out ⟨HBr.out.1, HBr.out.2.1⟩ ⟨HBb.out.1, HBb.out.2.1⟩ HB7.out (by have := HNN.out; omega) (by have := HNN.out; omega) n
        simp only at p1 p2 p3 p4 p5
        generalize (((((((W7.setCell ⟨N2, 0, none⟩ (.int .i64 n)).setCell ⟨N2, 1, none⟩ (.slice (some ⟨g1, 0, none⟩) r.length c1)).setCell ⟨N2, 2, none⟩ (.slice a2 c.length c2)).setCell ⟨N5, 0, none⟩ (.int .i64 xn)).setCell ⟨N5, 1, none⟩ (.int .i64 xs)).setCell ⟨N5, 2, none⟩ (.int .i64 xd)).setCell ⟨N5, 3, none⟩ (.string xb)) = W8 at p1 p2 p3 p4 p5 ⊢
        have hd8 : Below W8.heap.size W8 W8.drew := ⟨rfl, rfl, rfl, Nat.le_refl _, fun _ _ => rfl⟩
        have HF := Lib.hid (p1.keep hd8); have HR8 := Lib.hid (show W8.drew.rangeAt N5 0 (fc ⟨xn, xs, xd, xb⟩) from p2); have HO18 := Lib.hid (p3.below hd8); have HO28 := Lib.hid (p4.below hd8); have HB8 := Lib.hid (below_drew p5)
        clear p1 p2 p3 p4 p5 hd8 e1 e2 e3 y0 y1 y2 y3 k1 k2 k3 f1 f2 f3 z0 z1 z2 z3 m0 m1 m2 m3
        generalize W8.drew = W9 at HF HR8 HO18 HO28 HB8 ⊢
        go_wp2
        refine bodyPost_ret (retFF rfl rfl rfl HF.out HR8.out) rfl ?_
        unfold TakeS
        rw [HP.out]
        exact ⟨_, _, rfl, HO18.out, HO28.out, HB8.out⟩

end Go.Proofs.YtalnmbfmfeaohaaGreat.flight
