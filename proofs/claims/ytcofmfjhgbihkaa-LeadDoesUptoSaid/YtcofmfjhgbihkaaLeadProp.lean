/- Propose, Lead, Done, Begin. -/
import Derived.Test.YtcofmfjhgbihkaaRows
import Derived.Test.YtcofmfjhgbihkaaLeadHear
namespace Go.Proofs.Ytcofmfjhgbihkaa.crush
open Go.RowKit
open Go.Proofs.Ytcofmfjhgbihkaa.kit Go.Proofs.Ytcofmfjhgbihkaa.own
set_option linter.unusedVariables false
set_option linter.unusedSimpArgs false

theorem prop_yes (l : LeadV) (x : ByteArray) (n : Int) (h1 : l.st = 2) (h2 : l.has = false) : l.propose x n = { l with has := true, val := x, ak := [n] } := by unfold LeadV.propose; rw [if_pos ⟨h1, h2⟩]
theorem prop_no (l : LeadV) (x : ByteArray) (n : Int) (h : ¬ (l.st = 2 ∧ l.has = false)) : l.propose x n = l := by unfold LeadV.propose; rw [if_neg h]
theorem one_rowI {w : World} {B : Nat} (h : B ≤ w.heap.size) (n : Int) : Own ic 1 3 (w.alloc (.cells #[.int .i64 n] 3)) B (.slice (some ⟨w.heap.size, 0, none⟩) 1 1) [n] :=
  ⟨rfl, .inr ⟨w.heap.size, 1, #[.int .i64 n], rfl, h, alloc_at w _, Nat.le_refl _, by unfold maxLen; simp, rfl, rfl⟩⟩

set_option maxHeartbeats 8000000 in
set_option maxRecDepth 100000 in
theorem Propose_any (v : Value) (l : LeadV) (x : ByteArray) (n : Int) (w : World) (h : LdR w v l) (hl : l.Small) : Calls Try.prog 16 #[v, .string x, .int .i64 n] w (LdS w (l.propose x n)) := by
  have HC := Lib.hid (fun u (hu : Below w.heap.size w u) => copiedL_any v l u (h.keep hu) hl)
  have HSm := Lib.hid hl
  obtain ⟨s, t, rfl, hs, ht⟩ := h
  obtain ⟨sa, sc, rfl⟩ := hs.slice
  obtain ⟨ta, tc, rfl⟩ := ht.slice
  clear hs ht hl
  have HX := Lib.hid (ltwo_new w l.st l.r l.m (.slice sa l.ps.length sc) l.has l.val (.slice ta l.ak.length tc)).res
  unfold LeadV.agg
  unfold LdS LeadV.agg at HC
  go_enter Try.func16, Try.ntmps16
  go_upto_region 1 with fail
  generalize ((w.alloc (.cells #[.int .i64 l.st, .int .i64 l.r, .int .i64 l.m, .slice sa l.ps.length sc, .bool l.has, .string l.val, .slice ta l.ak.length tc] 27)).alloc (.cells #[.int .i64 0, .int .i64 0, .int .i64 0, .slice none 0 0, .bool false, .string { data := #[] }, .slice none 0 0] 27)) = W at HX ⊢
  obtain ⟨l0, l1, l2, l3, l4, l5, l6⟩ := HX.out.one.cells
  go_upto_region 2 with (first
    | (go_at_call 57; refine (HC.out _ HX.out.bel).mono ?_; rintro e w5 ⟨s5, t5, rfl, ho, hb⟩; obtain ⟨a5, c5, rfl⟩ := ho.1.slice; obtain ⟨b5, d5, rfl⟩ := ho.2.slice; have HX5 := Lib.hid (HX.out.keep hb); have HO5 := Lib.hid (ho.mono (show w.heap.size + 1 + 1 ≤ _ from HX.out.two.lt)); clear ho hb l0 l1 l2 l3 l4 l5 l6)
    | (refine wpList_store_mid rfl 27 _ _ rfl w.heap.size 0 #[.int .i64 l.st, .int .i64 l.r, .int .i64 l.m, .slice a5 l.ps.length c5, .bool l.has, .string l.val, .slice b5 l.ak.length d5] rfl rfl HX5.out.one.there sizeLead (lead_one _ _ _ _ _ _ _ _ _ _ _) ?_))
  have HX6 := Lib.hid (HX5.out.put l.st l.r l.m (.slice a5 l.ps.length c5) l.has l.val (.slice b5 l.ak.length d5))
  have HO6 := Lib.hid (HO5.out.farC (N := w.heap.size) (by omega) [.int .i64 l.st, .int .i64 l.r, .int .i64 l.m, .slice a5 l.ps.length c5, .bool l.has, .string l.val, .slice b5 l.ak.length d5] 0)
  generalize w5.setCells w.heap.size 0 _ = W6 at HX6 HO6 ⊢
  clear HX5 HO5 HX HC
  obtain ⟨l0, l1, l2, l3, l4, l5, l6⟩ := HX6.out.one.cells
  by_cases hst : l.st = 2 ∧ l.has = false
  · have HSt := Lib.hid hst
    obtain ⟨hs1, hs2⟩ := hst
    go_upto_region 3 with fail
    clear hs1 hs2 l0 l1 l2 l3 l4 l5 l6
    have hbn := below_new W6 (.cells #[.int .i64 n] 3)
    have HX7 := Lib.hid (HX6.out.keep hbn)
    have HO7 := Lib.hid (HO6.out.1.below hbn)
    have HP7 := Lib.hid (one_rowI (w := W6) (B := w.heap.size + 1 + 1) HX6.out.two.lt n)
    clear hbn
    have HN7 := Lib.hid (show w.heap.size + 1 < W6.heap.size from HX6.out.two.lt)
    obtain ⟨l0, l1, l2, l3, l4, l5, l6⟩ := HX6.out.one.cells
    have t4 := HX7.out.one.thaw 4
    have t5 := HX7.out.one.thaw 5
    have t6 := HX7.out.one.thaw 6
    obtain ⟨k0, k1, k2, k3, k4, k5, k6⟩ := HX7.out.one.cells
    go_upto_region 4 with fail
    have HX8 := Lib.hid (((HX7.out.set4 true).set5 x).set6 (.slice (some ⟨W6.heap.size, 0, none⟩) 1 1))
    have HP8 := Lib.hid (((HP7.out.far6L (N := w.heap.size) (by omega) 4 (.bool true)).far6L (N := w.heap.size) (by omega) 5 (.string x)).far6L (N := w.heap.size) (by omega) 6 (.slice (some ⟨W6.heap.size, 0, none⟩) 1 1))
    have HQ8 := Lib.hid (((HO7.out.far6L (N := w.heap.size) (by omega) 4 (.bool true)).far6L (N := w.heap.size) (by omega) 5 (.string x)).far6L (N := w.heap.size) (by omega) 6 (.slice (some ⟨W6.heap.size, 0, none⟩) 1 1))
    generalize W6.heap.size = K at HX8 HP8 HQ8 ⊢
    have HO8 : Hid (LdO _ (w.heap.size + 1 + 1) (.slice a5 l.ps.length c5) (.slice (some ⟨K, 0, none⟩) 1 1) { l with has := true, val := x, ak := [n] }) := Lib.hid ⟨HQ8.out, HP8.out⟩
    clear HX7 HO7 HP7 HN7 HP8 HQ8 HX6 HO6 l0 l1 l2 l3 l4 l5 l6 t4 t5 t6 k0 k1 k2 k3 k4 k5 k6
    generalize ((_ : World).setCell ⟨w.heap.size, 5, none⟩ (.string x)).setCell ⟨w.heap.size, 6, none⟩ _ = W8 at HX8 HO8 ⊢
    obtain ⟨l0, l1, l2, l3, l4, l5, l6⟩ := HX8.out.one.cells
    go_wp2_with (refine wpList_store_mid rfl 27 _ _ rfl (w.heap.size + 1) 0 #[.int .i64 l.st, .int .i64 l.r, .int .i64 l.m, .slice a5 l.ps.length c5, .bool true, .string x, .slice (some ⟨K, 0, none⟩) 1 1] rfl rfl HX8.out.two.there sizeLead (lead_one _ _ _ _ _ _ _ _ _ _ _) ?_)
    refine bodyPost_ret (ret_cell rfl rfl (HX8.out.two.put l.st l.r l.m (.slice a5 l.ps.length c5) true (x) (.slice (some ⟨K, 0, none⟩) 1 1)).range Try.underlying27 rfl sizeLead) rfl ?_
    obtain ⟨hf1, hf2⟩ := HX8.out.fin HO8.out [.int .i64 l.st, .int .i64 l.r, .int .i64 l.m, .slice a5 l.ps.length c5, .bool true, .string x, .slice (some ⟨K, 0, none⟩) 1 1]
    rw [prop_yes l x n HSt.out.1 HSt.out.2]; exact ⟨_, _, rfl, hf1, hf2⟩
  · have HSt := Lib.hid hst
    by_cases h1 : l.st = 2
    · have h2 : l.has = true := by
        cases h3 : l.has with
        | false => exact absurd ⟨h1, h3⟩ hst
        | true => rfl
      clear hst
      go_upto_region 4 with fail
      clear h1 h2
      go_wp2_with (refine wpList_store_mid rfl 27 _ _ rfl (w.heap.size + 1) 0 #[.int .i64 l.st, .int .i64 l.r, .int .i64 l.m, .slice a5 l.ps.length c5, .bool l.has, .string l.val, .slice b5 l.ak.length d5] rfl rfl HX6.out.two.there sizeLead (lead_one _ _ _ _ _ _ _ _ _ _ _) ?_)
      refine bodyPost_ret (ret_cell rfl rfl (HX6.out.two.put l.st l.r l.m (.slice a5 l.ps.length c5) l.has l.val (.slice b5 l.ak.length d5)).range Try.underlying27 rfl sizeLead) rfl ?_
      obtain ⟨hf1, hf2⟩ := HX6.out.fin HO6.out [.int .i64 l.st, .int .i64 l.r, .int .i64 l.m, .slice a5 l.ps.length c5, .bool l.has, .string l.val, .slice b5 l.ak.length d5]
      rw [prop_no l x n HSt.out]; exact ⟨_, _, rfl, hf1, hf2⟩
    · clear hst
      go_upto_region 4 with fail
      clear h1
      go_wp2_with (refine wpList_store_mid rfl 27 _ _ rfl (w.heap.size + 1) 0 #[.int .i64 l.st, .int .i64 l.r, .int .i64 l.m, .slice a5 l.ps.length c5, .bool l.has, .string l.val, .slice b5 l.ak.length d5] rfl rfl HX6.out.two.there sizeLead (lead_one _ _ _ _ _ _ _ _ _ _ _) ?_)
      refine bodyPost_ret (ret_cell rfl rfl (HX6.out.two.put l.st l.r l.m (.slice a5 l.ps.length c5) l.has l.val (.slice b5 l.ak.length d5)).range Try.underlying27 rfl sizeLead) rfl ?_
      obtain ⟨hf1, hf2⟩ := HX6.out.fin HO6.out [.int .i64 l.st, .int .i64 l.r, .int .i64 l.m, .slice a5 l.ps.length c5, .bool l.has, .string l.val, .slice b5 l.ak.length d5]
      rw [prop_no l x n HSt.out]; exact ⟨_, _, rfl, hf1, hf2⟩

set_option maxHeartbeats 8000000 in
set_option maxRecDepth 100000 in
theorem Lead_any (v : Value) (l : LeadV) (w : World) (h : LdR w v l) : Calls Try.prog 14 #[v] w (LdS w l.lead) := by
  obtain ⟨s, t, rfl, hs, ht⟩ := h
  obtain ⟨sa, sc, rfl⟩ := hs.slice
  obtain ⟨ta, tc, rfl⟩ := ht.slice
  clear hs ht
  have HX := Lib.hid (ltwo_new w l.st l.r l.m (.slice sa l.ps.length sc) l.has l.val (.slice ta l.ak.length tc))
  unfold LeadV.agg
  go_enter Try.func14, Try.ntmps14
  go_upto_region 1 with fail
  generalize ((w.alloc (.cells #[.int .i64 l.st, .int .i64 l.r, .int .i64 l.m, .slice sa l.ps.length sc, .bool l.has, .string l.val, .slice ta l.ak.length tc] 27)).alloc (.cells #[.int .i64 0, .int .i64 0, .int .i64 0, .slice none 0 0, .bool false, .string { data := #[] }, .slice none 0 0] 27)) = W at HX ⊢
  obtain ⟨l0, l1, l2, l3, l4, l5, l6⟩ := HX.out.one.cells
  go_wp2_with (refine wpList_store_mid rfl 27 _ _ rfl (w.heap.size + 1) 0 #[.int .i64 2, .int .i64 l.r, .int .i64 l.m, .slice none 0 0, .bool false, .string { data := #[] }, .slice none 0 0] rfl rfl HX.out.two.there sizeLead (lead_one _ _ _ _ _ _ _ _ _ _ _) ?_)
  refine bodyPost_ret (ret_cell rfl rfl (HX.out.two.put 2 l.r l.m (.slice none 0 0) false { data := #[] } (.slice none 0 0)).range Try.underlying27 rfl sizeLead) rfl ?_
  exact ⟨_, _, rfl, ⟨Own.nil _ _ _, Own.nil _ _ _⟩, Below.setCells HX.out.bel (b := w.heap.size + 1) (by omega) 0 _⟩

set_option maxHeartbeats 8000000 in
set_option maxRecDepth 100000 in
theorem Done_any (v : Value) (l : LeadV) (w : World) (h : LdR w v l) (hl : l.Small) : Calls Try.prog 20 #[v] w (LdS w l.done) := by
  obtain ⟨s, t, rfl, hs, ht⟩ := h
  have HC := Lib.hid (fun u (hu : Below w.heap.size w u) => copiedL_any (l.done.agg s (.slice none 0 0)) l.done u ⟨s, _, rfl, hs.keep hu, Sl.nil _⟩ ⟨hl.1, Nat.zero_le _⟩)
  obtain ⟨sa, sc, rfl⟩ := hs.slice
  obtain ⟨ta, tc, rfl⟩ := ht.slice
  clear hs ht hl
  have HX := Lib.hid (ltwo_new w l.st l.r l.m (.slice sa l.ps.length sc) l.has l.val (.slice ta l.ak.length tc)).res
  unfold LeadV.agg
  unfold LdS LeadV.agg LeadV.done at HC
  simp only at HC
  go_enter Try.func20, Try.ntmps20
  go_upto_region 1 with fail
  generalize ((w.alloc (.cells #[.int .i64 l.st, .int .i64 l.r, .int .i64 l.m, .slice sa l.ps.length sc, .bool l.has, .string l.val, .slice ta l.ak.length tc] 27)).alloc (.cells #[.int .i64 0, .int .i64 0, .int .i64 0, .slice none 0 0, .bool false, .string { data := #[] }, .slice none 0 0] 27)) = W at HX ⊢
  obtain ⟨l0, l1, l2, l3, l4, l5, l6⟩ := HX.out.one.cells
  have t4 := HX.out.one.thaw 4
  have t5 := HX.out.one.thaw 5
  have t6 := HX.out.one.thaw 6
  go_upto_region 2 with fail
  have HX2 := Lib.hid (((HX.out.set4 false).set5 { data := #[] }).set6 (.slice none 0 0))
  clear l0 l1 l2 l3 l4 l5 l6 t4 t5 t6
  generalize ((W.setCell ⟨w.heap.size, 4, none⟩ _).setCell ⟨w.heap.size, 5, none⟩ _).setCell ⟨w.heap.size, 6, none⟩ _ = W2 at HX2 ⊢
  obtain ⟨l0, l1, l2, l3, l4, l5, l6⟩ := HX2.out.one.cells
  go_wp2_with (first
    | (go_at_call 57; refine (HC.out _ HX2.out.bel).mono ?_; rintro e w5 ⟨s5, t5, rfl, ho, hb⟩; obtain ⟨a5, c5, rfl⟩ := ho.1.slice; obtain ⟨b5, d5, rfl⟩ := ho.2.slice; have HX5 := Lib.hid (HX2.out.keep hb); have HO5 := Lib.hid (ho.mono (show w.heap.size + 1 + 1 ≤ _ from HX2.out.two.lt)); clear ho hb l0 l1 l2 l3 l4 l5 l6)
    | (refine wpList_store_mid rfl 27 _ _ rfl (w.heap.size + 1) 0 #[.int .i64 l.st, .int .i64 l.r, .int .i64 l.m, .slice a5 l.ps.length c5, .bool false, .string { data := #[] }, .slice b5 0 d5] rfl rfl HX5.out.two.there sizeLead (lead_one _ _ _ _ _ _ _ _ _ _ _) ?_))
  refine bodyPost_ret (ret_cell rfl rfl (HX5.out.two.put l.st l.r l.m (.slice a5 l.ps.length c5) false { data := #[] } (.slice b5 0 d5)).range Try.underlying27 rfl sizeLead) rfl ?_
  obtain ⟨hf1, hf2⟩ := HX5.out.fin HO5.out [.int .i64 l.st, .int .i64 l.r, .int .i64 l.m, .slice a5 l.ps.length c5, .bool false, .string { data := #[] }, .slice b5 0 d5]
  exact ⟨_, _, rfl, hf1, hf2⟩
end Go.Proofs.Ytcofmfjhgbihkaa.crush
