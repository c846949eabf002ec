/- The document's Lead, Propose, Done, Chosen. -/
import Derived.Test.YtcofmfjhgbihkaaRows
import Derived.Test.YtcofmfjhgbihkaaLeadProp
import Derived.Test.YtcofmfjhgbihkaaLeadMaj
import Derived.Test.YtcofmfjhgbihkaaLeadRCopy
import Derived.Test.YtcofmfjhgbihkaaLeadRNext
import Derived.Deep.RegionHeld3
namespace Go.Proofs.Ytcofmfjhgbihkaa.crush
open Go.RowKit
open Go.Proofs.Ytcofmfjhgbihkaa.kit Go.Proofs.Ytcofmfjhgbihkaa.own
set_option linter.unusedVariables false
set_option linter.unusedSimpArgs false

set_option maxHeartbeats 8000000 in
set_option maxRecDepth 100000 in
theorem rLead_any (v : Value) (l : LeadV) (w : World) (h : LdR w v l) : Calls Try.prog 15 #[v] w (LdS w l.lead) := by
  obtain ⟨s, t, rfl, hs, ht⟩ := h
  obtain ⟨sa, sc, rfl⟩ := hs.slice
  obtain ⟨ta, tc, rfl⟩ := ht.slice
  clear hs ht
  have HX := Lib.hid (ltwo_new w l.st l.r l.m (.slice sa l.ps.length sc) l.has l.val (.slice ta l.ak.length tc))
  unfold LeadV.agg
  go_enter Try.func15, Try.ntmps15
  go_upto_region 1 with fail
  generalize ((w.alloc (.cells #[.int .i64 l.st, .int .i64 l.r, .int .i64 l.m, .slice sa l.ps.length sc, .bool l.has, .string l.val, .slice ta l.ak.length tc] 27)).alloc (.cells #[.int .i64 0, .int .i64 0, .int .i64 0, .slice none 0 0, .bool false, .string { data := #[] }, .slice none 0 0] 27)) = W at HX ⊢
  obtain ⟨l0, l1, l2, l3, l4, l5, l6⟩ := HX.out.one.cells
  go_wp2_with (refine wpList_store_mid rfl 27 _ _ rfl (w.heap.size + 1) 0 #[.int .i64 2, .int .i64 l.r, .int .i64 l.m, .slice none 0 0, .bool false, .string { data := #[] }, .slice none 0 0] rfl rfl HX.out.two.there sizeLead (lead_one _ _ _ _ _ _ _ _ _ _ _) ?_)
  refine bodyPost_ret (ret_cell rfl rfl (HX.out.two.put 2 l.r l.m (.slice none 0 0) false { data := #[] } (.slice none 0 0)).range Try.underlying27 rfl sizeLead) rfl ?_
  exact ⟨_, _, rfl, ⟨Own.nil _ _ _, Own.nil _ _ _⟩, Below.setCells HX.out.bel (b := w.heap.size + 1) (by omega) 0 _⟩


set_option maxHeartbeats 8000000 in
set_option maxRecDepth 100000 in
theorem rPropose_any (v : Value) (l : LeadV) (x : ByteArray) (n : Int) (w : World) (h : LdR w v l) (hl : l.Small) : Calls Try.prog 17 #[v, .string x, .int .i64 n] w (LdS w (l.propose x n)) := by
  have HC := Lib.hid (fun u (hu : Below w.heap.size w u) => rCopyL_any v l u (h.keep hu) hl)
  obtain ⟨s, t, rfl, hs, ht⟩ := h
  obtain ⟨sa, sc, rfl⟩ := hs.slice
  obtain ⟨ta, tc, rfl⟩ := ht.slice
  clear hs ht hl
  have HX := Lib.hid (ltwo_new w l.st l.r l.m (.slice sa l.ps.length sc) l.has l.val (.slice ta l.ak.length tc)).res
  unfold LeadV.agg
  unfold LdS LeadV.agg at HC
  go_enter Try.func17, Try.ntmps17
  go_upto_region 1 with fail
  generalize ((w.alloc (.cells #[.int .i64 l.st, .int .i64 l.r, .int .i64 l.m, .slice sa l.ps.length sc, .bool l.has, .string l.val, .slice ta l.ak.length tc] 27)).alloc (.cells #[.int .i64 0, .int .i64 0, .int .i64 0, .slice none 0 0, .bool false, .string { data := #[] }, .slice none 0 0] 27)) = W at HX ⊢
  obtain ⟨l0, l1, l2, l3, l4, l5, l6⟩ := HX.out.one.cells
  go_upto_region 2 with (go_at_call 11; refine (HC.out _ HX.out.bel).mono ?_; rintro e w5 ⟨s5, t5, rfl, ho, hb⟩; obtain ⟨a5, c5, rfl⟩ := ho.1.slice; obtain ⟨b5, d5, rfl⟩ := ho.2.slice; have HX5 := Lib.hid (HX.out.keep hb); have HO5 := Lib.hid (ho.mono (show w.heap.size + 1 + 1 ≤ _ from HX.out.two.lt)); clear ho hb l0 l1 l2 l3 l4 l5 l6)
  have hbn := below_new w5 (.cells #[.int .i64 l.st, .int .i64 l.r, .int .i64 l.m, .slice a5 l.ps.length c5, .bool l.has, .string l.val, .slice b5 l.ak.length d5] 27)
  have HX6 := Lib.hid (HX5.out.keep hbn)
  have HO6 := Lib.hid (HO5.out.keep hbn)
  have HC6 := Lib.hid (lbox_new w5 l.st l.r l.m (.slice a5 l.ps.length c5) l.has l.val (.slice b5 l.ak.length d5))
  have HMC := Lib.hid (show w.heap.size + 1 < w5.heap.size from HX5.out.two.lt)
  have HBk : Hid (∀ g, (Value.slice a5 l.ps.length c5).ownBlock = some g → g < w5.heap.size) := Lib.hid (fun g hg => (HO5.out.1.blk g hg).2)
  clear hbn HX5 HO5 HX HC
  generalize w5.alloc _ = W6 at HX6 HO6 HC6 ⊢
  generalize w5.heap.size = D at HC6 HMC HBk ⊢
  obtain ⟨l0, l1, l2, l3, l4, l5, l6⟩ := HX6.out.one.cells
  by_cases hst : l.st = 2 ∧ l.has = false
  · have HSt := Lib.hid hst
    obtain ⟨hs1, hs2⟩ := hst
    go_upto_region 3 with fail
    clear hs1 hs2 l0 l1 l2 l3 l4 l5 l6
    obtain ⟨l0, l1, l2, l3, l4, l5, l6⟩ := HC6.out.cells
    have t4 := HC6.out.thaw 4
    have t5 := HC6.out.thaw 5
    have t6 := HC6.out.thaw 6
    go_upto_region 5 with fail
    have HC7 := Lib.hid ((HC6.out.set4 true).set5 x)
    have HO7 : Hid (Own prc 6 53 ((W6.setCell ⟨D, 4, none⟩ (.bool true)).setCell ⟨D, 5, none⟩ (.string x)) (w.heap.size + 1 + 1) (.slice a5 l.ps.length c5) l.ps) := Lib.hid ((HO6.out.1.setOther (fun e => by have := HBk.out D e; omega) 4 (.bool true)).setOther (fun e => by have := HBk.out D e; omega) 5 (.string x))
    have HX7 : Hid (LBox ((W6.setCell ⟨D, 4, none⟩ (.bool true)).setCell ⟨D, 5, none⟩ (.string x)) (w.heap.size + 1) 0 0 0 (.slice none 0 0) false { data := #[] } (.slice none 0 0) ∧ Below w.heap.size w ((W6.setCell ⟨D, 4, none⟩ (.bool true)).setCell ⟨D, 5, none⟩ (.string x))) := Lib.hid (by
      have hmc := HMC.out
      exact ⟨(heap_setCell_other _ _ _ _ (by show w.heap.size + 1 ≠ D; omega)).trans ((heap_setCell_other _ _ _ _ (by show w.heap.size + 1 ≠ D; omega)).trans HX6.out.two), (HX6.out.bel.setCell (p := ⟨D, 4, none⟩) (by show w.heap.size ≤ D; omega) _).setCell (p := ⟨D, 5, none⟩) (by show w.heap.size ≤ D; omega) _⟩)
    clear l0 l1 l2 l3 l4 l5 l6 t4 t5 t6 HX6 HO6 HC6
    generalize (W6.setCell ⟨D, 4, none⟩ _).setCell ⟨D, 5, none⟩ _ = V at HC7 HO7 HX7 ⊢
    have hbn := below_new V (.cells #[.int .i64 n] 3)
    have HCq := Lib.hid (HC7.out.keep hbn)
    have HOq := Lib.hid (HO7.out.below hbn)
    have HAq := Lib.hid (one_rowI (w := V) (B := D + 1) HC7.out.lt n)
    have HXq := Lib.hid (And.intro (HX7.out.1.keep hbn) (HX7.out.2.trans (hbn.mono HX7.out.2.size)))
    have HVs := Lib.hid (show D < V.heap.size from HC7.out.lt)
    clear hbn HC7 HO7 HX7
    have k6 := HCq.out.cells.2.2.2.2.2.2
    have t6 := HCq.out.thaw 6
    go_upto_region 6 with fail
    generalize V.heap.size = Q at HAq HVs ⊢
    have HC8 := Lib.hid (HCq.out.set6 (.slice (some ⟨Q, 0, none⟩) 1 1))
    have HP8 := Lib.hid (HOq.out.setOther (fun e => by have := HBk.out D e; omega) 6 (.slice (some ⟨Q, 0, none⟩) 1 1))
    have HA8 := Lib.hid ((HAq.out.far6L (N := D) (by omega) 6 (.slice (some ⟨Q, 0, none⟩) 1 1)).mono (show w.heap.size + 1 + 1 ≤ D + 1 by have := HMC.out; omega))
    have HX8 : Hid (LBox ((V.alloc (.cells #[.int .i64 n] 3)).setCell ⟨D, 6, none⟩ (.slice (some ⟨Q, 0, none⟩) 1 1)) (w.heap.size + 1) 0 0 0 (.slice none 0 0) false { data := #[] } (.slice none 0 0) ∧ Below w.heap.size w ((V.alloc (.cells #[.int .i64 n] 3)).setCell ⟨D, 6, none⟩ (.slice (some ⟨Q, 0, none⟩) 1 1))) := Lib.hid ⟨(heap_setCell_other _ _ _ _ (by have := HMC.out; show w.heap.size + 1 ≠ D; omega)).trans HXq.out.1, HXq.out.2.setCell (p := ⟨D, 6, none⟩) (by have := HMC.out; show w.heap.size ≤ D; omega) (.slice (some ⟨Q, 0, none⟩) 1 1)⟩
    clear k6 t6 HCq HOq HAq HXq
    generalize (V.alloc _).setCell ⟨D, 6, none⟩ _ = V8 at HC8 HP8 HA8 HX8 ⊢
    obtain ⟨l0, l1, l2, l3, l4, l5, l6⟩ := HC8.out.cells
    go_wp2_with (refine wpList_store_mid rfl 27 _ _ rfl (w.heap.size + 1) 0 #[.int .i64 l.st, .int .i64 l.r, .int .i64 l.m, .slice a5 l.ps.length c5, .bool true, .string x, .slice (some ⟨Q, 0, none⟩) 1 1] rfl rfl HX8.out.1.there sizeLead (lead_one _ _ _ _ _ _ _ _ _ _ _) ?_)
    refine bodyPost_ret (ret_cell rfl rfl (HX8.out.1.put l.st l.r l.m (.slice a5 l.ps.length c5) true x (.slice (some ⟨Q, 0, none⟩) 1 1)).range Try.underlying27 rfl sizeLead) rfl ?_
    have hlo : LdO V8 (w.heap.size + 1 + 1) (.slice a5 l.ps.length c5) (.slice (some ⟨Q, 0, none⟩) 1 1) { l with has := true, val := x, ak := [n] } := ⟨HP8.out, HA8.out⟩
    rw [prop_yes l x n HSt.out.1 HSt.out.2]
    exact ⟨_, _, rfl, (hlo.farC (N := w.heap.size + 1) (by omega) _ 0).mono (by omega), Below.setCells HX8.out.2 (b := w.heap.size + 1) (by omega) 0 _⟩
  · have HSt := Lib.hid hst
    have hgo : ∀ (P : Prop), (l.st = 2 → l.has = true → P) → (¬ l.st = 2 → P) → P := fun P h1 h2 => by
      by_cases h3 : l.st = 2
      · cases h4 : l.has with
        | false => exact absurd ⟨h3, h4⟩ hst
        | true => exact h1 h3 h4
      · exact h2 h3
    clear hst
    refine hgo _ (fun h1 h2 => ?_) (fun h1 => ?_)
    · go_upto_region 6 with fail
      clear h1 h2 hgo l0 l1 l2 l3 l4 l5 l6
      obtain ⟨l0, l1, l2, l3, l4, l5, l6⟩ := HC6.out.cells
      go_wp2_with (refine wpList_store_mid rfl 27 _ _ rfl (w.heap.size + 1) 0 #[.int .i64 l.st, .int .i64 l.r, .int .i64 l.m, .slice a5 l.ps.length c5, .bool l.has, .string l.val, .slice b5 l.ak.length d5] rfl rfl HX6.out.two.there sizeLead (lead_one _ _ _ _ _ _ _ _ _ _ _) ?_)
      refine bodyPost_ret (ret_cell rfl rfl (HX6.out.two.put l.st l.r l.m (.slice a5 l.ps.length c5) l.has l.val (.slice b5 l.ak.length d5)).range Try.underlying27 rfl sizeLead) rfl ?_
      obtain ⟨hf1, hf2⟩ := HX6.out.fin HO6.out [.int .i64 l.st, .int .i64 l.r, .int .i64 l.m, .slice a5 l.ps.length c5, .bool l.has, .string l.val, .slice b5 l.ak.length d5]
      rw [prop_no l x n HSt.out]; exact ⟨_, _, rfl, hf1, hf2⟩
    · go_upto_region 6 with fail
      clear h1 hgo l0 l1 l2 l3 l4 l5 l6
      obtain ⟨l0, l1, l2, l3, l4, l5, l6⟩ := HC6.out.cells
      go_wp2_with (refine wpList_store_mid rfl 27 _ _ rfl (w.heap.size + 1) 0 #[.int .i64 l.st, .int .i64 l.r, .int .i64 l.m, .slice a5 l.ps.length c5, .bool l.has, .string l.val, .slice b5 l.ak.length d5] rfl rfl HX6.out.two.there sizeLead (lead_one _ _ _ _ _ _ _ _ _ _ _) ?_)
      refine bodyPost_ret (ret_cell rfl rfl (HX6.out.two.put l.st l.r l.m (.slice a5 l.ps.length c5) l.has l.val (.slice b5 l.ak.length d5)).range Try.underlying27 rfl sizeLead) rfl ?_
      obtain ⟨hf1, hf2⟩ := HX6.out.fin HO6.out [.int .i64 l.st, .int .i64 l.r, .int .i64 l.m, .slice a5 l.ps.length c5, .bool l.has, .string l.val, .slice b5 l.ak.length d5]
      rw [prop_no l x n HSt.out]; exact ⟨_, _, rfl, hf1, hf2⟩

set_option maxHeartbeats 8000000 in
set_option maxRecDepth 100000 in
theorem rDone_any (v : Value) (l : LeadV) (w : World) (h : LdR w v l) (hl : l.Small) : Calls Try.prog 21 #[v] w (LdS w l.done) := by
  have HC := Lib.hid (fun u (hu : Below w.heap.size w u) => rCopyL_any v l u (h.keep hu) hl)
  obtain ⟨s, t, rfl, hs, ht⟩ := h
  obtain ⟨sa, sc, rfl⟩ := hs.slice
  obtain ⟨ta, tc, rfl⟩ := ht.slice
  clear hs ht hl
  have HX := Lib.hid (ltwo_new w l.st l.r l.m (.slice sa l.ps.length sc) l.has l.val (.slice ta l.ak.length tc)).res
  unfold LeadV.agg
  unfold LdS LeadV.agg at HC
  go_enter Try.func21, Try.ntmps21
  go_upto_region 1 with fail
  generalize ((w.alloc (.cells #[.int .i64 l.st, .int .i64 l.r, .int .i64 l.m, .slice sa l.ps.length sc, .bool l.has, .string l.val, .slice ta l.ak.length tc] 27)).alloc (.cells #[.int .i64 0, .int .i64 0, .int .i64 0, .slice none 0 0, .bool false, .string { data := #[] }, .slice none 0 0] 27)) = W at HX ⊢
  obtain ⟨l0, l1, l2, l3, l4, l5, l6⟩ := HX.out.one.cells
  go_upto_region 2 with (go_at_call 11; refine (HC.out _ HX.out.bel).mono ?_; rintro e w5 ⟨s5, t5, rfl, ho, hb⟩; obtain ⟨a5, c5, rfl⟩ := ho.1.slice; obtain ⟨b5, d5, rfl⟩ := ho.2.slice; have HX5 := Lib.hid (HX.out.keep hb); have HO5 := Lib.hid (ho.mono (show w.heap.size + 1 + 1 ≤ _ from HX.out.two.lt)); clear ho hb l0 l1 l2 l3 l4 l5 l6)
  have hbn := below_new w5 (.cells #[.int .i64 l.st, .int .i64 l.r, .int .i64 l.m, .slice a5 l.ps.length c5, .bool l.has, .string l.val, .slice b5 l.ak.length d5] 27)
  have HX6 := Lib.hid (HX5.out.keep hbn)
  have HO6 := Lib.hid (HO5.out.keep hbn)
  have HC6 := Lib.hid (lbox_new w5 l.st l.r l.m (.slice a5 l.ps.length c5) l.has l.val (.slice b5 l.ak.length d5))
  have HMC := Lib.hid (show w.heap.size + 1 < w5.heap.size from HX5.out.two.lt)
  have HBk : Hid (∀ g, (Value.slice a5 l.ps.length c5).ownBlock = some g → g < w5.heap.size) := Lib.hid (fun g hg => (HO5.out.1.blk g hg).2)
  clear hbn HX5 HO5 HX HC
  generalize w5.alloc _ = W6 at HX6 HO6 HC6 ⊢
  generalize w5.heap.size = D at HC6 HMC HBk ⊢
  obtain ⟨l0, l1, l2, l3, l4, l5, l6⟩ := HC6.out.cells
  have t4 := HC6.out.thaw 4
  have t5 := HC6.out.thaw 5
  have t6 := HC6.out.thaw 6
  go_upto_region 5 with fail
  have HCq := HC6
  have HXq := HX6
  have HOq := Lib.hid HO6.out.1
  have HC8 := Lib.hid (((HCq.out.set4 false).set5 { data := #[] }).set6 (.slice none 0 0))
  have HP8 : Hid (Own prc 6 53 (((W6.setCell ⟨D, 4, none⟩ (.bool false)).setCell ⟨D, 5, none⟩ (.string { data := #[] })).setCell ⟨D, 6, none⟩ (.slice none 0 0)) (w.heap.size + 1 + 1) (.slice a5 l.ps.length c5) l.ps) := Lib.hid (((HOq.out.setOther (fun e => by have := HBk.out D e; omega) 4 (.bool false)).setOther (fun e => by have := HBk.out D e; omega) 5 (.string { data := #[] })).setOther (fun e => by have := HBk.out D e; omega) 6 (.slice none 0 0))
  have HA8 : Hid (Own ic 1 3 (((W6.setCell ⟨D, 4, none⟩ (.bool false)).setCell ⟨D, 5, none⟩ (.string { data := #[] })).setCell ⟨D, 6, none⟩ (.slice none 0 0)) (w.heap.size + 1 + 1) (.slice none 0 0) []) := Lib.hid (Own.nil _ _ _)
  have HX8 : Hid (LBox (((W6.setCell ⟨D, 4, none⟩ (.bool false)).setCell ⟨D, 5, none⟩ (.string { data := #[] })).setCell ⟨D, 6, none⟩ (.slice none 0 0)) (w.heap.size + 1) 0 0 0 (.slice none 0 0) false { data := #[] } (.slice none 0 0) ∧ Below w.heap.size w (((W6.setCell ⟨D, 4, none⟩ (.bool false)).setCell ⟨D, 5, none⟩ (.string { data := #[] })).setCell ⟨D, 6, none⟩ (.slice none 0 0))) := Lib.hid (by
    have hmc := HMC.out
    exact ⟨((heap_setCell_other _ _ _ _ (by show w.heap.size + 1 ≠ D; omega)).trans ((heap_setCell_other _ _ _ _ (by show w.heap.size + 1 ≠ D; omega)).trans ((heap_setCell_other _ _ _ _ (by show w.heap.size + 1 ≠ D; omega)).trans HXq.out.two))), ((HXq.out.bel.setCell (p := ⟨D, 4, none⟩) (by show w.heap.size ≤ D; omega) _).setCell (p := ⟨D, 5, none⟩) (by show w.heap.size ≤ D; omega) _).setCell (p := ⟨D, 6, none⟩) (by show w.heap.size ≤ D; omega) _⟩)
  clear l0 l1 l2 l3 l4 l5 l6 t4 t5 t6
  generalize ((W6.setCell ⟨D, 4, none⟩ (.bool false)).setCell ⟨D, 5, none⟩ (.string { data := #[] })).setCell ⟨D, 6, none⟩ _ = V8 at HC8 HP8 HA8 HX8 ⊢
  obtain ⟨l0, l1, l2, l3, l4, l5, l6⟩ := HC8.out.cells
  go_wp2_with (refine wpList_store_mid rfl 27 _ _ rfl (w.heap.size + 1) 0 #[.int .i64 l.st, .int .i64 l.r, .int .i64 l.m, .slice a5 l.ps.length c5, .bool false, .string { data := #[] }, .slice none 0 0] rfl rfl HX8.out.1.there sizeLead (lead_one _ _ _ _ _ _ _ _ _ _ _) ?_)
  refine bodyPost_ret (ret_cell rfl rfl (HX8.out.1.put l.st l.r l.m (.slice a5 l.ps.length c5) false { data := #[] } (.slice none 0 0)).range Try.underlying27 rfl sizeLead) rfl ?_
  have hlo : LdO V8 (w.heap.size + 1 + 1) (.slice a5 l.ps.length c5) (.slice none 0 0) l.done := ⟨HP8.out, HA8.out⟩
  exact ⟨_, _, rfl, (hlo.farC (N := w.heap.size + 1) (by omega) _ 0).mono (by omega), Below.setCells HX8.out.2 (b := w.heap.size + 1) (by omega) 0 _⟩

set_option maxHeartbeats 4000000 in
set_option maxRecDepth 100000 in
theorem rChosen_any (v : Value) (l : LeadV) (n : Int) (w : World) (h : LdR w v l) (hn : I64 n) : Calls Try.prog 23 #[v, .int .i64 n] w fun e w' => e = .returned (.bool (l.chosen n)) ∧ Below w.heap.size w w' := by
  obtain ⟨s, t, rfl, hs, ht⟩ := h
  obtain ⟨sa, sc, rfl⟩ := hs.slice
  obtain ⟨ta, tc, rfl⟩ := ht.slice
  have HM := Lib.hid (fun u => rMost_any n hn u)
  have HB := Lib.hid (below_drew (below_new w (.cells #[.int .i64 l.st, .int .i64 l.r, .int .i64 l.m, .slice sa l.ps.length sc, .bool l.has, .string l.val, .slice ta l.ak.length tc] 27)))
  have HX := Lib.hid (lbox_new w l.st l.r l.m (.slice sa l.ps.length sc) l.has l.val (.slice ta l.ak.length tc))
  clear hs ht hn
  unfold LeadV.agg LeadV.chosen majB
  generalize mostN n = q at HM ⊢
  go_enter Try.func23, Try.ntmps23
  go_upto_region 1 with fail
  generalize w.alloc _ = W at HB HX ⊢
  have HXd := Lib.hid (HX.out.keep (below_drew (Below.refl _ _)))
  obtain ⟨c0, c1, c2, c3, c4, c5, c6⟩ := HXd.out.cells
  by_cases h1 : 1 ≤ n
  · have h1' : 0 < n := by omega
    obtain ⟨hq, hh⟩ : ∃ q, l.has = q := ⟨_, rfl⟩
    have HS := Lib.hid hh
    rw [hh] at c4
    clear hh
    cases hq
    case true =>
      go_region_held3 (fun u => u.cell? ⟨w.heap.size, 4, none⟩ = some (.bool true) ∧ u.cell? ⟨w.heap.size, 6, none⟩ = some (.slice ta l.ak.length tc))
        (exact ⟨c4, c6⟩)
        (first | (go_at_call 61; refine (HM.out _).mono ?_; rintro e w' ⟨rfl, rfl⟩))
      go_wp2
      go_ret
      exact ⟨by simp [HS.out, h1'], HB.out⟩
    case false =>
      go_region
      go_wp2
      go_ret
      exact ⟨by simp [HS.out], HB.out⟩
  · have h1' : ¬ 0 < n := by omega
    go_region
    go_wp2
    go_ret
    exact ⟨by have h9 : ¬ 0 < n := by omega
              simp [h9], HB.out⟩

end Go.Proofs.Ytcofmfjhgbihkaa.crush
