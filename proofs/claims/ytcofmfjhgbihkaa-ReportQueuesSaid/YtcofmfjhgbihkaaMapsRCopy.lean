/- The document's Copy of a map. -/
import Derived.Test.YtcofmfjhgbihkaaRows
import Derived.Test.YtcofmfjhgbihkaaMapsApply
namespace Go.Proofs.Ytcofmfjhgbihkaa.crush
open Go.RowKit
open Go.Proofs.Ytcofmfjhgbihkaa.kit Go.Proofs.Ytcofmfjhgbihkaa.own
set_option linter.unusedVariables false
set_option linter.unusedSimpArgs false

theorem MBox.at1 {W : World} {N : Nat} {t : TypeId} {ep : Int} {v1 v2 v3 v4 : Value} (h : MBox W N t ep v1 v2 v3 v4) (x : Value) : MBox (W.setCell ⟨N, 1, none⟩ x) N t ep x v2 v3 v4 := heap_setCell_same W N 1 _ _ x h
theorem MBox.at2 {W : World} {N : Nat} {t : TypeId} {ep : Int} {v1 v2 v3 v4 : Value} (h : MBox W N t ep v1 v2 v3 v4) (x : Value) : MBox (W.setCell ⟨N, 2, none⟩ x) N t ep v1 x v3 v4 := heap_setCell_same W N 2 _ _ x h
theorem MBox.at3 {W : World} {N : Nat} {t : TypeId} {ep : Int} {v1 v2 v3 v4 : Value} (h : MBox W N t ep v1 v2 v3 v4) (x : Value) : MBox (W.setCell ⟨N, 3, none⟩ x) N t ep v1 v2 x v4 := heap_setCell_same W N 3 _ _ x h
theorem MBox.at4 {W : World} {N : Nat} {t : TypeId} {ep : Int} {v1 v2 v3 v4 : Value} (h : MBox W N t ep v1 v2 v3 v4) (x : Value) : MBox (W.setCell ⟨N, 4, none⟩ x) N t ep v1 v2 v3 x := heap_setCell_same W N 4 _ _ x h
theorem MBox.at0 {W : World} {N : Nat} {t : TypeId} {ep : Int} {v1 v2 v3 v4 : Value} (h : MBox W N t ep v1 v2 v3 v4) (x : Int) : MBox (W.setCell ⟨N, 0, none⟩ (.int .i64 x)) N t x v1 v2 v3 v4 := heap_setCell_same W N 0 _ _ (.int .i64 x) h
/-- The boxes: the argument, the result, the copy. -/
structure MCp (w : World) (N M : Nat) (ep : Int) (s1 s2 s3 s4 c1 c2 c3 c4 : Value) (W : World) : Prop where
  bel : Below w.heap.size w W
  one : MBox W N 83 ep s1 s2 s3 s4
  two : MBox W (N + 1) 83 0 (.slice none 0 0) (.slice none 0 0) (.slice none 0 0) (.slice none 0 0)
  cp : MBox W M 83 ep c1 c2 c3 c4
  hN : N = w.heap.size
  hM : N + 1 < M
section
variable {w : World} {N M : Nat} {ep : Int} {s1 s2 s3 s4 c1 c2 c3 c4 : Value} {W W' : World}
theorem MCp.keep (h : MCp w N M ep s1 s2 s3 s4 c1 c2 c3 c4 W) (hb : Below W.heap.size W W') : MCp w N M ep s1 s2 s3 s4 c1 c2 c3 c4 W' := ⟨h.bel.trans (hb.mono h.bel.size), h.one.keep hb, h.two.keep hb, h.cp.keep hb, h.hN, h.hM⟩
theorem MCp.set1 (h : MCp w N M ep s1 s2 s3 s4 c1 c2 c3 c4 W) (x : Value) : MCp w N M ep s1 s2 s3 s4 x c2 c3 c4 (W.setCell ⟨M, 1, none⟩ x) := by
  have h1 := h.hN; have h2 := h.hM
  exact ⟨h.bel.setCell (p := ⟨M, 1, none⟩) (by show w.heap.size ≤ M; omega) _, (heap_setCell_other _ _ _ _ (by show N ≠ M; omega)).trans h.one, (heap_setCell_other _ _ _ _ (by show N + 1 ≠ M; omega)).trans h.two, h.cp.at1 x, h.hN, h.hM⟩
theorem MCp.set2 (h : MCp w N M ep s1 s2 s3 s4 c1 c2 c3 c4 W) (x : Value) : MCp w N M ep s1 s2 s3 s4 c1 x c3 c4 (W.setCell ⟨M, 2, none⟩ x) := by
  have h1 := h.hN; have h2 := h.hM
  exact ⟨h.bel.setCell (p := ⟨M, 2, none⟩) (by show w.heap.size ≤ M; omega) _, (heap_setCell_other _ _ _ _ (by show N ≠ M; omega)).trans h.one, (heap_setCell_other _ _ _ _ (by show N + 1 ≠ M; omega)).trans h.two, h.cp.at2 x, h.hN, h.hM⟩
theorem MCp.set3 (h : MCp w N M ep s1 s2 s3 s4 c1 c2 c3 c4 W) (x : Value) : MCp w N M ep s1 s2 s3 s4 c1 c2 x c4 (W.setCell ⟨M, 3, none⟩ x) := by
  have h1 := h.hN; have h2 := h.hM
  exact ⟨h.bel.setCell (p := ⟨M, 3, none⟩) (by show w.heap.size ≤ M; omega) _, (heap_setCell_other _ _ _ _ (by show N ≠ M; omega)).trans h.one, (heap_setCell_other _ _ _ _ (by show N + 1 ≠ M; omega)).trans h.two, h.cp.at3 x, h.hN, h.hM⟩
theorem MCp.set4 (h : MCp w N M ep s1 s2 s3 s4 c1 c2 c3 c4 W) (x : Value) : MCp w N M ep s1 s2 s3 s4 c1 c2 c3 x (W.setCell ⟨M, 4, none⟩ x) := by
  have h1 := h.hN; have h2 := h.hM
  exact ⟨h.bel.setCell (p := ⟨M, 4, none⟩) (by show w.heap.size ≤ M; omega) _, (heap_setCell_other _ _ _ _ (by show N ≠ M; omega)).trans h.one, (heap_setCell_other _ _ _ _ (by show N + 1 ≠ M; omega)).trans h.two, h.cp.at4 x, h.hN, h.hM⟩
end
theorem Own.atM {α : Type} {enc : α → List Value} {k e B : Nat} {W : World} {v : Value} {xs : List α} (h : Own enc k e W B v xs) {M : Nat} (hM : M < B) (o : Nat) (x : Value) : Own enc k e (W.setCell ⟨M, o, none⟩ x) B v xs := h.setOther (fun e => by have := (h.blk _ e).1; omega) o x

set_option maxHeartbeats 8000000 in
set_option maxRecDepth 100000 in
theorem rCopyM_any (v : Value) (m : MapV) (w : World) (h : MapR w v m) (hl : m.Small) : Calls Try.prog 95 #[v] w (AppS w m) := by
  obtain ⟨vh, vo, vp, vb, rfl, h1, h2, h3, h4⟩ := h
  have HS1 := Lib.hid (fun u (hu : Below w.heap.size w u) => h1.keep hu)
  have HS2 := Lib.hid (fun u (hu : Below w.heap.size w u) => h2.keep hu)
  have HS3 := Lib.hid (fun u (hu : Below w.heap.size w u) => h3.keep hu)
  have HS4 := Lib.hid (fun u (hu : Below w.heap.size w u) => h4.keep hu)
  have HL := Lib.hid hl
  obtain ⟨ah, ch, rfl⟩ := h1.slice
  obtain ⟨ao, co, rfl⟩ := h2.slice
  obtain ⟨ap, cp, rfl⟩ := h3.slice
  obtain ⟨ab, cb, rfl⟩ := h4.slice
  have HX0 := Lib.hid (mbox_new w 83 m.epoch (.slice ah m.hosts.length ch) (.slice ao m.osds.length co) (.slice ap m.pools.length cp) (.slice ab m.bans.length cb))
  have HB0 := Lib.hid (below_new w (.cells #[.int .i64 m.epoch, .slice ah m.hosts.length ch, .slice ao m.osds.length co, .slice ap m.pools.length cp, .slice ab m.bans.length cb] 83))
  clear h1 h2 h3 h4 hl
  go_enter Try.func95, Try.ntmps95
  go_upto_region 1 with fail
  have hb := below_new (w.alloc (.cells #[.int .i64 m.epoch, .slice ah m.hosts.length ch, .slice ao m.osds.length co, .slice ap m.pools.length cp, .slice ab m.bans.length cb] 83)) (.cells #[.int .i64 0, .slice none 0 0, .slice none 0 0, .slice none 0 0, .slice none 0 0] 83)
  have hx := mbox_new (w.alloc (.cells #[.int .i64 m.epoch, .slice ah m.hosts.length ch, .slice ao m.osds.length co, .slice ap m.pools.length cp, .slice ab m.bans.length cb] 83)) 83 0 (.slice none 0 0) (.slice none 0 0) (.slice none 0 0) (.slice none 0 0)
  rw [World.size_alloc] at hx
  have HX1 := Lib.hid (HX0.out.keep hb)
  have HX2 := Lib.hid hx
  have HB1 := Lib.hid (HB0.out.trans (hb.mono HB0.out.size))
  clear hb hx HX0 HB0
  generalize ((w.alloc (.cells #[.int .i64 m.epoch, .slice ah m.hosts.length ch, .slice ao m.osds.length co, .slice ap m.pools.length cp, .slice ab m.bans.length cb] 83)).alloc (.cells #[.int .i64 0, .slice none 0 0, .slice none 0 0, .slice none 0 0, .slice none 0 0] 83)) = W at HX1 HX2 HB1 ⊢
  obtain ⟨l0, l1, l2, l3, l4⟩ := HX1.out.cells
  go_upto_region 2 with fail
  have hb := below_new W (.cells #[.int .i64 m.epoch, .slice none 0 0, .slice none 0 0, .slice none 0 0, .slice none 0 0] 83)
  have HC : Hid (MCp w w.heap.size W.heap.size m.epoch (.slice ah m.hosts.length ch) (.slice ao m.osds.length co) (.slice ap m.pools.length cp) (.slice ab m.bans.length cb) (.slice none 0 0) (.slice none 0 0) (.slice none 0 0) (.slice none 0 0) (W.alloc (.cells #[.int .i64 m.epoch, .slice none 0 0, .slice none 0 0, .slice none 0 0, .slice none 0 0] 83))) := Lib.hid ⟨HB1.out.trans (hb.mono HB1.out.size), HX1.out.keep hb, HX2.out.keep hb, mbox_new W _ _ _ _ _ _, rfl, HX2.out.lt⟩
  clear hb l0 l1 l2 l3 l4 HX1 HX2 HB1
  generalize W.alloc _ = W1 at HC ⊢
  generalize W.heap.size = M at HC ⊢
  have e1 := HC.out.cp.cells.2.1
  have c1 := HC.out.one.cells.2.1
  go_upto_region 3 with (at_builtin; refine appSl ic_len ic_one (by decide) rfl _ _ 25 rfl W1.heap.size 3 _ (by rfl) 8 Try.underlying25 infoInt _ [] rfl (Own.nil _ _ _) _ m.hosts rfl (HS1.out _ HC.out.bel) (by have := HL.out; unfold MapV.Small at this; unfold maxLen; simp; omega) (by have := HL.out; unfold MapV.Small at this; simp; omega) (Nat.le_refl _) ?_; intro v1 w1 ho1 hk1; obtain ⟨x1, y1, hv1⟩ := ho1.slice; rw [List.nil_append] at ho1 hv1; subst hv1; have HC1 := Lib.hid (HC.out.keep hk1.toBelow); have HO1 := Lib.hid (ho1.mono (show M + 1 ≤ _ from HC.out.cp.lt)); clear ho1 hk1 e1 c1 HC; have e1 := HC1.out.cp.cells.2.1; have f1 := HC1.out.cp.thaw 1)
  have HC := Lib.hid (HC1.out.set1 (.slice x1 m.hosts.length y1))
  have HO1 := Lib.hid (HO1.out.atM (M := M) (by omega) 1 (.slice x1 m.hosts.length y1))
  clear e1 f1 HC1
  generalize w1.setCell ⟨M, 1, none⟩ _ = W2 at HC HO1 ⊢
  have e2 := HC.out.cp.cells.2.2.1
  have c2 := HC.out.one.cells.2.2.1
  go_upto_region 4 with (at_builtin; refine appSl oc_len oc_one (by decide) rfl _ _ 79 rfl W2.heap.size 132 _ (by rfl) 32 Try.underlying79 infoOsd _ [] rfl (Own.nil _ _ _) _ m.osds rfl (HS2.out _ HC.out.bel) (by have := HL.out; unfold MapV.Small at this; unfold maxLen; simp; omega) (by have := HL.out; unfold MapV.Small at this; simp; omega) (Nat.le_refl _) ?_; intro v2 w2 ho2 hk2; obtain ⟨x2, y2, hv2⟩ := ho2.slice; rw [List.nil_append] at ho2 hv2; subst hv2; have HC2 := Lib.hid (HC.out.keep hk2.toBelow); have HO2 := Lib.hid (ho2.mono (show M + 1 ≤ _ from HC.out.cp.lt)); have HO1 := Lib.hid (HO1.out.below hk2.toBelow); clear ho2 hk2 e2 c2 HC; have e2 := HC2.out.cp.cells.2.2.1; have f2 := HC2.out.cp.thaw 2)
  have HC := Lib.hid (HC2.out.set2 (.slice x2 m.osds.length y2))
  have HO1 := Lib.hid (HO1.out.atM (M := M) (by omega) 2 (.slice x2 m.osds.length y2))
  have HO2 := Lib.hid (HO2.out.atM (M := M) (by omega) 2 (.slice x2 m.osds.length y2))
  clear e2 f2 HC2
  generalize w2.setCell ⟨M, 2, none⟩ _ = W3 at HC HO1 HO2 ⊢
  have e3 := HC.out.cp.cells.2.2.2.1
  have c3 := HC.out.one.cells.2.2.2.1
  go_upto_region 5 with (at_builtin; refine appSl pc_len pc_one (by decide) rfl _ _ 80 rfl W3.heap.size 85 _ (by rfl) 32 Try.underlying80 infoPool _ [] rfl (Own.nil _ _ _) _ m.pools rfl (HS3.out _ HC.out.bel) (by have := HL.out; unfold MapV.Small at this; unfold maxLen; simp; omega) (by have := HL.out; unfold MapV.Small at this; simp; omega) (Nat.le_refl _) ?_; intro v3 w3 ho3 hk3; obtain ⟨x3, y3, hv3⟩ := ho3.slice; rw [List.nil_append] at ho3 hv3; subst hv3; have HC3 := Lib.hid (HC.out.keep hk3.toBelow); have HO3 := Lib.hid (ho3.mono (show M + 1 ≤ _ from HC.out.cp.lt)); have HO1 := Lib.hid (HO1.out.below hk3.toBelow); have HO2 := Lib.hid (HO2.out.below hk3.toBelow); clear ho3 hk3 e3 c3 HC; have e3 := HC3.out.cp.cells.2.2.2.1; have f3 := HC3.out.cp.thaw 3)
  have HC := Lib.hid (HC3.out.set3 (.slice x3 m.pools.length y3))
  have HO1 := Lib.hid (HO1.out.atM (M := M) (by omega) 3 (.slice x3 m.pools.length y3))
  have HO2 := Lib.hid (HO2.out.atM (M := M) (by omega) 3 (.slice x3 m.pools.length y3))
  have HO3 := Lib.hid (HO3.out.atM (M := M) (by omega) 3 (.slice x3 m.pools.length y3))
  clear e3 f3 HC3
  generalize w3.setCell ⟨M, 3, none⟩ _ = W4 at HC HO1 HO2 HO3 ⊢
  have e4 := HC.out.cp.cells.2.2.2.2
  have c4 := HC.out.one.cells.2.2.2.2
  go_upto_region 6 with (at_builtin; refine appSl bc_len bc_one (by decide) rfl _ _ 81 rfl W4.heap.size 136 _ (by rfl) 16 Try.underlying81 infoBan _ [] rfl (Own.nil _ _ _) _ m.bans rfl (HS4.out _ HC.out.bel) (by have := HL.out; unfold MapV.Small at this; unfold maxLen; simp; omega) (by have := HL.out; unfold MapV.Small at this; simp; omega) (Nat.le_refl _) ?_; intro v4 w4 ho4 hk4; obtain ⟨x4, y4, hv4⟩ := ho4.slice; rw [List.nil_append] at ho4 hv4; subst hv4; have HC4 := Lib.hid (HC.out.keep hk4.toBelow); have HO4 := Lib.hid (ho4.mono (show M + 1 ≤ _ from HC.out.cp.lt)); have HO1 := Lib.hid (HO1.out.below hk4.toBelow); have HO2 := Lib.hid (HO2.out.below hk4.toBelow); have HO3 := Lib.hid (HO3.out.below hk4.toBelow); clear ho4 hk4 e4 c4 HC; have e4 := HC4.out.cp.cells.2.2.2.2; have f4 := HC4.out.cp.thaw 4)
  have HC := Lib.hid (HC4.out.set4 (.slice x4 m.bans.length y4))
  have HO1 := Lib.hid (HO1.out.atM (M := M) (by omega) 4 (.slice x4 m.bans.length y4))
  have HO2 := Lib.hid (HO2.out.atM (M := M) (by omega) 4 (.slice x4 m.bans.length y4))
  have HO3 := Lib.hid (HO3.out.atM (M := M) (by omega) 4 (.slice x4 m.bans.length y4))
  have HO4 := Lib.hid (HO4.out.atM (M := M) (by omega) 4 (.slice x4 m.bans.length y4))
  clear e4 f4 HC4
  generalize w4.setCell ⟨M, 4, none⟩ _ = W5 at HC HO1 HO2 HO3 HO4 ⊢
  obtain ⟨c0, c1, c2, c3, c4⟩ := HC.out.cp.cells
  go_wp2_with (refine wpList_store_mid rfl 83 _ _ rfl (w.heap.size + 1) 0 #[.int .i64 m.epoch, .slice x1 m.hosts.length y1, .slice x2 m.osds.length y2, .slice x3 m.pools.length y3, .slice x4 m.bans.length y4] rfl rfl HC.out.two.there sizeMap (map_one _ _ _ _ _ _ _ _ _ _ _ _ _) ?_)
  refine bodyPost_ret (ret_cell rfl rfl (HC.out.two.put m.epoch (.slice x1 m.hosts.length y1) (.slice x2 m.osds.length y2) (.slice x3 m.pools.length y3) (.slice x4 m.bans.length y4)).range Try.underlying83 rfl sizeMap) rfl ?_
  have hM := HC.out.hM
  exact ⟨_, _, _, _, rfl, ⟨(HO1.out.setCells_far (by omega) 0 _).mono (by omega), (HO2.out.setCells_far (by omega) 0 _).mono (by omega), (HO3.out.setCells_far (by omega) 0 _).mono (by omega), (HO4.out.setCells_far (by omega) 0 _).mono (by omega)⟩, Below.setCells HC.out.bel (b := w.heap.size + 1) (by omega) 0 _⟩
end Go.Proofs.Ytcofmfjhgbihkaa.crush
