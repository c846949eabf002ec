/- The document's Copy. -/
import Derived.Test.YtcofmfjhgbihkaaRows
import Derived.Test.YtcofmfjhgbihkaaLeadRes
namespace Go.Proofs.Ytcofmfjhgbihkaa.crush
open Go.RowKit
open Go.Proofs.Ytcofmfjhgbihkaa.kit Go.Proofs.Ytcofmfjhgbihkaa.own
set_option linter.unusedVariables false
set_option linter.unusedSimpArgs false

/-- The boxes of the document's Copy: the argument, the result, the copy. -/
structure LCp (w : World) (N M : Nat) (l : LeadV) (s t s' t' : Value) (W : World) : Prop where
  bel : Below w.heap.size w W
  one : LBox W N l.st l.r l.m s l.has l.val t
  two : LBox W (N + 1) 0 0 0 (.slice none 0 0) false { data := #[] } (.slice none 0 0)
  cp : LBox W M l.st l.r l.m s' l.has l.val t'
  hN : N = w.heap.size
  hM : N + 1 < M
section
variable {w : World} {N M : Nat} {l : LeadV} {s t s' t' : Value} {W W' : World}
theorem LCp.keep (h : LCp w N M l s t s' t' W) (hb : Below W.heap.size W W') : LCp w N M l s t s' t' W' := ⟨h.bel.trans (hb.mono h.bel.size), h.one.keep hb, h.two.keep hb, h.cp.keep hb, h.hN, h.hM⟩
theorem LCp.set3 (h : LCp w N M l s t s' t' W) (v : Value) : LCp w N M l s t v t' (W.setCell ⟨M, 3, none⟩ v) := by
  have h1 := h.hN; have h2 := h.hM
  exact ⟨h.bel.setCell (p := ⟨M, 3, none⟩) (by show w.heap.size ≤ M; omega) _, (heap_setCell_other _ _ _ _ (by show N ≠ M; omega)).trans h.one, (heap_setCell_other _ _ _ _ (by show N + 1 ≠ M; omega)).trans h.two, h.cp.set3 v, h.hN, h.hM⟩
theorem LCp.set6 (h : LCp w N M l s t s' t' W) (v : Value) : LCp w N M l s t s' v (W.setCell ⟨M, 6, none⟩ v) := by
  have h1 := h.hN; have h2 := h.hM
  exact ⟨h.bel.setCell (p := ⟨M, 6, none⟩) (by show w.heap.size ≤ M; omega) _, (heap_setCell_other _ _ _ _ (by show N ≠ M; omega)).trans h.one, (heap_setCell_other _ _ _ _ (by show N + 1 ≠ M; omega)).trans h.two, h.cp.set6 v, h.hN, h.hM⟩
end

set_option maxHeartbeats 8000000 in
set_option maxRecDepth 100000 in
theorem rCopyL_any (v : Value) (l : LeadV) (w : World) (h : LdR w v l) (hl : l.Small) : Calls Try.prog 11 #[v] w (LdS w l) := by
  obtain ⟨s, t, rfl, hs, ht⟩ := h
  have HSp := Lib.hid (fun u (hu : Below w.heap.size w u) => hs.keep hu)
  have HSa := Lib.hid (fun u (hu : Below w.heap.size w u) => ht.keep hu)
  have HL1 := Lib.hid hl.1; have HL2 := Lib.hid hl.2
  obtain ⟨sa, sc, rfl⟩ := hs.slice
  obtain ⟨ta, tc, rfl⟩ := ht.slice
  have HX := Lib.hid (ltwo_new w l.st l.r l.m (.slice sa l.ps.length sc) l.has l.val (.slice ta l.ak.length tc))
  unfold LdS LeadV.agg
  clear hs ht hl
  go_enter Try.func11, Try.ntmps11
  go_upto_region 1 with fail
  generalize ((w.alloc (.cells #[.int .i64 l.st, .int .i64 l.r, .int .i64 l.m, .slice sa l.ps.length sc, .bool l.has, .string l.val, .slice ta l.ak.length tc] 27)).alloc (.cells #[.int .i64 0, .int .i64 0, .int .i64 0, .slice none 0 0, .bool false, .string { data := #[] }, .slice none 0 0] 27)) = W at HX ⊢
  obtain ⟨c0, c1, c2, c3, c4, c5, c6⟩ := HX.out.one.cells
  go_upto_region 2 with fail
  have hb := below_new W (.cells #[.int .i64 l.st, .int .i64 l.r, .int .i64 l.m, .slice sa l.ps.length sc, .bool l.has, .string l.val, .slice ta l.ak.length tc] 27)
  have HC : Hid (LCp w w.heap.size W.heap.size l (.slice sa l.ps.length sc) (.slice ta l.ak.length tc) (.slice sa l.ps.length sc) (.slice ta l.ak.length tc) (W.alloc (.cells #[.int .i64 l.st, .int .i64 l.r, .int .i64 l.m, .slice sa l.ps.length sc, .bool l.has, .string l.val, .slice ta l.ak.length tc] 27))) := Lib.hid ⟨HX.out.bel.trans (hb.mono HX.out.bel.size), HX.out.one.keep hb, HX.out.two.keep hb, lbox_new W _ _ _ _ _ _ _, rfl, HX.out.two.lt⟩
  clear hb c0 c1 c2 c3 c4 c5 c6 HX
  generalize W.alloc _ = W1 at HC ⊢
  generalize W.heap.size = M at HC ⊢
  have e3 := HC.out.cp.cells.2.2.2.1
  have f3 := HC.out.cp.thaw 3
  go_upto_region 3 with fail
  have HC2 := Lib.hid (HC.out.set3 (.slice none 0 0))
  clear e3 f3 HC
  generalize W1.setCell ⟨M, 3, none⟩ _ = W2 at HC2 ⊢
  have e3 := HC2.out.cp.cells.2.2.2.1
  have c3 := HC2.out.one.cells.2.2.2.1
  go_upto_region 4 with (at_builtin; refine appSl prc_len prc_one (by decide) rfl _ _ 24 rfl W2.heap.size 53 _ (by rfl) 56 Try.underlying24 infoProm _ [] rfl (Own.nil _ _ _) _ l.ps rfl (HSp.out _ HC2.out.bel) (by have := HL1.out; unfold maxLen; simp; omega) (by have := HL1.out; simp; omega) (Nat.le_refl _) ?_; intro v2 w2 ho2 hk2; obtain ⟨x2, y2, hv2⟩ := ho2.slice; rw [List.nil_append] at ho2 hv2; subst hv2; have HC3 := Lib.hid (HC2.out.keep hk2.toBelow); have HO3 := Lib.hid (ho2.mono (show M + 1 ≤ _ from HC2.out.cp.lt)); clear ho2 hk2 e3 c3; have e3 := HC3.out.cp.cells.2.2.2.1; have f3 := HC3.out.cp.thaw 3)
  have HC4 := Lib.hid (HC3.out.set3 (.slice x2 l.ps.length y2))
  have HO4 := Lib.hid (HO3.out.far6L (N := M) (by omega) 3 (.slice x2 l.ps.length y2))
  clear e3 f3 HC2 HC3 HO3
  generalize w2.setCell ⟨M, 3, none⟩ _ = W4 at HC4 HO4 ⊢
  have e6 := HC4.out.cp.cells.2.2.2.2.2.2
  have f6 := HC4.out.cp.thaw 6
  go_upto_region 5 with fail
  have HC5 := Lib.hid (HC4.out.set6 (.slice none 0 0))
  have HO5 := Lib.hid (HO4.out.far6L (N := M) (by omega) 6 (.slice none 0 0))
  clear e6 f6 HC4 HO4
  generalize W4.setCell ⟨M, 6, none⟩ _ = W5 at HC5 HO5 ⊢
  have e6 := HC5.out.cp.cells.2.2.2.2.2.2
  have c6 := HC5.out.one.cells.2.2.2.2.2.2
  go_upto_region 6 with (at_builtin; refine appSl ic_len ic_one (by decide) rfl _ _ 25 rfl W5.heap.size 3 _ (by rfl) 8 Try.underlying25 infoInt _ [] rfl (Own.nil _ _ _) _ l.ak rfl (HSa.out _ HC5.out.bel) (by have := HL2.out; unfold maxLen; simp; omega) (by have := HL2.out; simp; omega) (Nat.le_refl _) ?_; intro v6 w6 ho6 hk6; obtain ⟨x6, y6, hv6⟩ := ho6.slice; rw [List.nil_append] at ho6 hv6; subst hv6; have HC6 := Lib.hid (HC5.out.keep hk6.toBelow); have HP6 := Lib.hid (HO5.out.below hk6.toBelow); have HO6 := Lib.hid (ho6.mono (show M + 1 ≤ _ from HC5.out.cp.lt)); clear ho6 hk6 e6 c6; have e6 := HC6.out.cp.cells.2.2.2.2.2.2; have f6 := HC6.out.cp.thaw 6)
  have HC7 := Lib.hid (HC6.out.set6 (.slice x6 l.ak.length y6))
  have HO7 : Hid (LdO (w6.setCell ⟨M, 6, none⟩ (.slice x6 l.ak.length y6)) (M + 1) (.slice x2 l.ps.length y2) (.slice x6 l.ak.length y6) l) := Lib.hid ⟨HP6.out.far6L (N := M) (by omega) 6 _, HO6.out.far6L (N := M) (by omega) 6 _⟩
  clear e6 f6 HC5 HO5 HC6 HP6 HO6
  generalize w6.setCell ⟨M, 6, none⟩ _ = W7 at HC7 HO7 ⊢
  obtain ⟨c0, c1, c2, c3, c4, c5, c6⟩ := HC7.out.cp.cells
  go_wp2_with (refine wpList_store_mid rfl 27 _ _ rfl (w.heap.size + 1) 0 #[.int .i64 l.st, .int .i64 l.r, .int .i64 l.m, .slice x2 l.ps.length y2, .bool l.has, .string l.val, .slice x6 l.ak.length y6] rfl rfl HC7.out.two.there sizeLead (lead_one _ _ _ _ _ _ _ _ _ _ _) ?_)
  refine bodyPost_ret (ret_cell rfl rfl (HC7.out.two.put l.st l.r l.m (.slice x2 l.ps.length y2) l.has l.val (.slice x6 l.ak.length y6)).range Try.underlying27 rfl sizeLead) rfl ?_
  exact ⟨_, _, rfl, (HO7.out.farC (N := w.heap.size + 1) (by have := HC7.out.hM; omega) _ 0).mono (by have := HC7.out.hM; omega), Below.setCells HC7.out.bel (b := w.heap.size + 1) (by omega) 0 _⟩
end Go.Proofs.Ytcofmfjhgbihkaa.crush
