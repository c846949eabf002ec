/- Two flights are the same; copies. -/
import Derived.Test.YtalnmbfmfeaohaaGreatRows
import Derived.Test.YtalnmbfmfeaohaaGreatFlightFit2
namespace Go.Proofs.YtalnmbfmfeaohaaGreat.flight
open Go.RowKit
open Go.Proofs.YtalnmbfmfeaohaaGreat.kit Go.Proofs.YtalnmbfmfeaohaaGreat.own
set_option linter.unusedVariables false

/-- What 'Same' tells. -/
def SameS (W : World) (f g : Flt) (en : Ending) (W' : World) : Prop := ∃ r : Bool, en = .returned (.bool r) ∧ (r = true ↔ f = g) ∧ Below W.heap.size W W'

/-- A box holds three cells that may be written. -/
theorem FBox.thaw {W : World} {N : Nat} {n : Int} {vl vc : Value} (h : FBox W N n vl vc) : W.frozen? ⟨N, 0, none⟩ = false ∧ W.frozen? ⟨N, 1, none⟩ = false ∧ W.frozen? ⟨N, 2, none⟩ = false := by
  unfold FBox at h
  refine ⟨?_, ?_, ?_⟩ <;> simp [World.frozen?, h]
theorem FBox.set {W : World} {N : Nat} {n : Int} {vl vc : Value} (h : FBox W N n vl vc) (n' : Int) (vl' vc' : Value) : FBox (((W.setCell ⟨N, 0, none⟩ (.int .i64 n')).setCell ⟨N, 1, none⟩ vl').setCell ⟨N, 2, none⟩ vc') N n' vl' vc' := by
  have h1 := heap_setCell_same W N 0 _ _ (.int .i64 n') h
  have h2 := heap_setCell_same _ N 1 _ _ vl' h1
  have h3 := heap_setCell_same _ N 2 _ _ vc' h2
  exact h3

theorem FBox.other {W : World} {N N2 : Nat} {n : Int} {vl vc : Value} (h : FBox W N n vl vc) (hne : N ≠ N2) (a b c : Value) : FBox (((W.setCell ⟨N2, 0, none⟩ a).setCell ⟨N2, 1, none⟩ b).setCell ⟨N2, 2, none⟩ c) N n vl vc := by
  unfold FBox
  rw [heap_setCell_other _ _ _ _ hne, heap_setCell_other _ _ _ _ hne, heap_setCell_other _ _ _ _ hne]
  exact h
theorem below_set3 {B : Nat} {w W : World} (h : Below B w W) {N : Nat} (hN : B ≤ N) (a b c : Value) : Below B w (((W.setCell ⟨N, 0, none⟩ a).setCell ⟨N, 1, none⟩ b).setCell ⟨N, 2, none⟩ c) :=
  ((h.setCell (p := ⟨N, 0, none⟩) hN a).setCell (p := ⟨N, 1, none⟩) hN b).setCell (p := ⟨N, 2, none⟩) hN c
theorem FBox.range {W : World} {N : Nat} {n : Int} {vl vc : Value} (h : FBox W N n vl vc) : W.rangeAt N 0 [.int .i64 n, vl, vc] := fun j v hv => by
  unfold FBox at h
  simp only [World.cell?, h]
  simpa using hv
/-- A flight is handed back. -/
theorem retF {fn : Func} {t : Tmp} {tmps : Array Value} {w : World} {N : Nat} {n : Int} {vl vc : Value} (h : fn.results = #[.cell t 25]) (ht : tmps.getD t undef = .pointer (some ⟨N, 0, none⟩)) (hx : FBox w N n vl vc) :
    (results fn tmps).run Tryz.prog w = .ok (.agg #[.int .i64 n, vl, vc]) w := ret_cell h ht hx.range Tryz.underlying25 rfl sizeFlt
theorem retF2 {fn : Func} {t u : Tmp} {tmps : Array Value} {w : World} {N : Nat} {n : Int} {vl vc : Value} (h : fn.results = #[.cell t 25, .tmp u]) (ht : tmps.getD t undef = .pointer (some ⟨N, 0, none⟩)) (hx : FBox w N n vl vc) :
    (results fn tmps).run Tryz.prog w = .ok (.tuple #[.agg #[.int .i64 n, vl, vc], tmps.getD u undef]) w := ret_cell_tmp h ht hx.range Tryz.underlying25 rfl sizeFlt
/-- A row of the call's own stays so where another block is written. -/
theorem Own.set3 {α : Type} {enc : α → List Value} {k e B : Nat} {W : World} {v : Value} {xs : List α} (h : Own enc k e W B v xs) {N : Nat} (hN : N < B) (a b c : Value) : Own enc k e (((W.setCell ⟨N, 0, none⟩ a).setCell ⟨N, 1, none⟩ b).setCell ⟨N, 2, none⟩ c) B v xs := by
  obtain ⟨h1, h2⟩ := id h
  refine ⟨h1, ?_⟩
  rcases h2 with ⟨rfl, h0⟩ | ⟨g, cap, cur, rfl, hB, hg, hr⟩
  · exact .inl ⟨rfl, h0⟩
  · have hne : g ≠ N := by omega
    refine .inr ⟨g, cap, cur, rfl, hB, ?_, hr⟩
    rw [heap_setCell_other _ _ _ _ hne, heap_setCell_other _ _ _ _ hne, heap_setCell_other _ _ _ _ hne]
    exact hg

/-- What a copy of a flight is. -/
def CopyS (w : World) (f : Flt) (en : Ending) (w' : World) : Prop := ∃ vl vc, en = .returned (.agg #[.int .i64 f.next, vl, vc]) ∧ Own fc 4 38 w' w.heap.size vl f.list ∧ Own wc 2 40 w' w.heap.size vc f.cut ∧ Below w.heap.size w w'

set_option maxHeartbeats 8000000 in
set_option maxRecDepth 100000 in
theorem copied_any (v : Value) (f : Flt) (w : World) (h : FlR w v f) (hl1 : f.list.length * 40 ≤ 140737488355328) (hl2 : f.cut.length * 16 ≤ 140737488355328) : Calls Tryz.prog 31 #[v] w (CopyS w f) := by
  obtain ⟨vl, vc, rfl, hl, hc⟩ := h
  have hb1 := below_new w (.cells #[.int .i64 f.next, vl, vc] 25)
  have hb2 := below_new (w.alloc (.cells #[.int .i64 f.next, vl, vc] 25)) (.cells #[.int .i64 0, .slice none 0 0, .slice none 0 0] 25)
  have hx1 := (fbox_new w f.next vl vc).keep hb2
  have hx2 := fbox_new (w.alloc (.cells #[.int .i64 f.next, vl, vc] 25)) 0 (.slice none 0 0) (.slice none 0 0)
  rw [World.size_alloc] at hx2
  have hb := hb1.trans (hb2.mono (by simp))
  have HS1 := Lib.hid (hl.keep hb); have HS2 := Lib.hid (hc.keep hb)
  have HX1 := Lib.hid hx1; have HX2 := Lib.hid hx2; have HB := Lib.hid hb
  have HL1 := Lib.hid hl1; have HL2 := Lib.hid hl2
  obtain ⟨n, l, c⟩ := f
  simp only at HS1 HS2 HX1 HX2 HB HL1 HL2 ⊢
  clear hl hc hb1 hb2 hx1 hx2 hb hl1 hl2
  go_enter Tryz.func31, Tryz.ntmps31
  go_upto_region 1 with fail
  generalize (w.alloc (.cells #[.int .i64 n, _, _] 25)).alloc _ = W at HS1 HS2 HX1 HX2 HB ⊢
  generalize hN2 : w.heap.size + 1 = N2 at HX2 ⊢
  obtain ⟨N, hN⟩ : ∃ N, w.heap.size = N := ⟨_, rfl⟩
  rw [hN] at HX1 ⊢
  have HN := Lib.hid (And.intro hN hN2)
  clear hN hN2
  obtain ⟨e1, e2, e3⟩ := HX1.out.cells
  have HW := Lib.hid (show Below W.heap.size W W.drew from ⟨rfl, rfl, rfl, Nat.le_refl _, fun _ _ => rfl⟩)
  go_region_held3 (fun u => u.cell? ⟨N, 0, none⟩ = some (.int .i64 n) ∧ u.cell? ⟨N, 1, none⟩ = some vl ∧ u.cell? ⟨N, 2, none⟩ = some vc)
    (first | exact ⟨e1, e2, e3⟩ | exact ⟨g1, g2, g3⟩ | exact ⟨i1, i2, i3⟩ | exact (HX14.out.other (by have := HN.out; omega) _ _ _).cells)
    (first
      | ((go_at_call 51; refine (cloneF_any _ _ W.drew (HS1.out.keep HW.out) HL1.out).mono ?_; rintro e w3 ⟨v3, rfl, ho3, hb3⟩; obtain ⟨x3, y3, rfl⟩ := ho3.slice; have HX13 := Lib.hid ((HX1.out.keep HW.out).keep hb3); have HX23 := Lib.hid ((HX2.out.keep HW.out).keep hb3); have HS23 := Lib.hid ((HS2.out.keep HW.out).keep hb3); have HO3 := Lib.hid ho3; have HB3 := Lib.hid hb3; clear hb3 ho3; obtain ⟨g1, g2, g3⟩ := HX13.out.cells))
      | ((go_at_call 33; refine (cloneW_any _ _ w3 HS23.out HL2.out).mono ?_; rintro e w4 ⟨v4, rfl, ho4, hb4⟩; obtain ⟨x4, y4, rfl⟩ := ho4.slice; have HX14 := Lib.hid (HX13.out.keep hb4); have HX24 := Lib.hid (HX23.out.keep hb4); have HO34 := Lib.hid (HO3.out.below hb4); have HO4 := Lib.hid ho4; have HB4 := Lib.hid hb4; clear hb4 ho4; obtain ⟨i1, i2, i3⟩ := HX14.out.cells; obtain ⟨k1, k2, k3⟩ := HX24.out.cells; obtain ⟨f1, f2, f3⟩ := HX24.out.thaw)))
  have hN := HN.out
  have hsz := HB.out.size
  have hN2 := HX2.out.lt
  have HF := Lib.hid (HX24.out.set n (.slice x3 l.length y3) (.slice x4 c.length y4))
  have HO3f := Lib.hid ((HO34.out.set3 hN2 (.int .i64 n) (.slice x3 l.length y3) (.slice x4 c.length y4)).mono hsz)
  have HO4f := Lib.hid ((HO4.out.set3 (Nat.lt_of_lt_of_le hN2 HB3.out.size) (.int .i64 n) (.slice x3 l.length y3) (.slice x4 c.length y4)).mono (Nat.le_trans hsz HB3.out.size))
  have HBf := Lib.hid (below_set3 (HB.out.trans (((HW.out.trans HB3.out).trans (HB4.out.mono HB3.out.size)).mono hsz)) (show w.heap.size ≤ N2 by omega) (.int .i64 n) (.slice x3 l.length y3) (.slice x4 c.length y4))
  clear e1 e2 e3 g1 g2 g3 i1 i2 i3 k1 k2 k3 f1 f2 f3 HX14 HX24 HX13 HX23 HO34 HO4 HB4 HB3 HO3 HS23 hN hsz hN2
  generalize (((w4.setCell ⟨N2, 0, none⟩ (.int .i64 n)).setCell ⟨N2, 1, none⟩ (.slice x3 l.length y3)).setCell ⟨N2, 2, none⟩ (.slice x4 c.length y4)) = W5 at HF HO3f HO4f HBf ⊢
  go_wp2
  refine bodyPost_ret (retF rfl rfl HF.out) rfl ?_
  exact ⟨_, _, rfl, HO3f.out, HO4f.out, HBf.out⟩

end Go.Proofs.YtalnmbfmfeaohaaGreat.flight
