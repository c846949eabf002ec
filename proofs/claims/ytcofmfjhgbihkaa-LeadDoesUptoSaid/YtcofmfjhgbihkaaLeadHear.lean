/- What changes a leader: Hear, Ack, Propose, Lead, Done, Begin. -/
import Derived.Test.YtcofmfjhgbihkaaRows
import Derived.Test.YtcofmfjhgbihkaaLeadRes
namespace Go.Proofs.Ytcofmfjhgbihkaa.crush
open Go.RowKit
open Go.Proofs.Ytcofmfjhgbihkaa.kit Go.Proofs.Ytcofmfjhgbihkaa.own
set_option linter.unusedVariables false
set_option linter.unusedSimpArgs false

theorem hear_ps (l : LeadV) (p : PromV) (h : l.st = 1) : l.hear p = { l with ps := putL PromV.mon l.ps p } := by unfold LeadV.hear; rw [if_pos h]
theorem hear_no (l : LeadV) (p : PromV) (h : ¬ l.st = 1) : l.hear p = l := by unfold LeadV.hear; rw [if_neg h]
theorem ack_ps (l : LeadV) (n : Int) (h : l.has = true) : l.ack n = { l with ak := putL (fun z => z) l.ak n } := by unfold LeadV.ack; rw [if_pos h]
theorem ack_no (l : LeadV) (n : Int) (h : ¬ l.has = true) : l.ack n = l := by unfold LeadV.ack; rw [if_neg h]

set_option maxHeartbeats 8000000 in
set_option maxRecDepth 100000 in
theorem Hear_any (v : Value) (l : LeadV) (p : PromV) (w : World) (h : LdR w v l) (hl : l.Small) (hr : l.st = 1 → Ris PromV.mon l.ps) : Calls Try.prog 31 #[v, .agg (prc p).toArray] w (LdS w (l.hear p)) := by
  have HC := Lib.hid (fun u (hu : Below w.heap.size w u) => copiedL_any v l u (h.keep hu) hl)
  have HSm := Lib.hid hl
  obtain ⟨s, t, rfl, hs, ht⟩ := h
  obtain ⟨sa, sc, rfl⟩ := hs.slice
  obtain ⟨ta, tc, rfl⟩ := ht.slice
  clear hs ht hl
  have HR := Lib.hid hr
  clear hr
  obtain ⟨W1, hW1, hX1, hP1⟩ := lres_new w l.st l.r l.m (.slice sa l.ps.length sc) l.has l.val (.slice ta l.ak.length tc) (.cells (prc p).toArray 53)
  have HX := Lib.hid hX1
  have HPx : Hid (∀ u {st r m : Int} {s t : Value} {has : Bool} {val : ByteArray}, LRes w W1 w.heap.size (w.heap.size + 1 + 1) st r m s has val t u → u.cell? ⟨w.heap.size + 1, 0, none⟩ = some (.int .i64 p.mon) ∧ u.cell? ⟨w.heap.size + 1, 1, none⟩ = some (.int .i64 p.n) ∧ u.cell? ⟨w.heap.size + 1, 2, none⟩ = some (.bool p.has) ∧ u.cell? ⟨w.heap.size + 1, 3, none⟩ = some (.int .i64 p.ar) ∧ u.cell? ⟨w.heap.size + 1, 4, none⟩ = some (.int .i64 p.am) ∧ u.cell? ⟨w.heap.size + 1, 5, none⟩ = some (.string p.val)) := Lib.hid (fun u st r m s t has val hu => by
    have h2 := (hu.mid (w.heap.size + 1) (by omega) (by omega)).trans hP1
    refine ⟨?_, ?_, ?_, ?_, ?_, ?_⟩ <;> simp [World.cell?, h2, prc])
  have HPu := Lib.hid (fun v B u (h : OwnP prc 6 53 u B v l.ps) (hB : In B u) (hr : Ris PromV.mon l.ps) => (show Calls Try.prog 71 #[v, .agg #[.int .i64 p.mon, .int .i64 p.n, .bool p.has, .int .i64 p.ar, .int .i64 p.am, .string p.val], .func (.func 63) #[] #[]] u (InsOP B (putL PromV.mon l.ps p) u) from putP_any v l.ps p B u h hB hr HSm.out.1))
  clear hX1 hP1
  unfold LeadV.agg prc
  unfold prc at hW1
  unfold LdS LeadV.agg at HC
  go_enter Try.func31, Try.ntmps31
  go_upto_region 1 with fail
  try rw [← hW1]
  clear hW1
  obtain ⟨l0, l1, l2, l3, l4, l5, l6⟩ := HX.out.one.cells
  go_upto_region 2 with (first
    | (go_at_call 57; refine (HC.out _ HX.out.bel).mono ?_; rintro e w5 ⟨s5, t5, rfl, ho, hb⟩; obtain ⟨a5, c5, rfl⟩ := ho.1.slice; obtain ⟨b5, d5, rfl⟩ := ho.2.slice; have HX5 := Lib.hid (HX.out.keep hb); have HO5 := Lib.hid (ho.mono (show w.heap.size + 1 + 1 + 1 ≤ _ from HX.out.two.lt)); clear ho hb l0 l1 l2 l3 l4 l5 l6)
    | (refine wpList_store_mid rfl 27 _ _ rfl w.heap.size 0 #[.int .i64 l.st, .int .i64 l.r, .int .i64 l.m, .slice a5 l.ps.length c5, .bool l.has, .string l.val, .slice b5 l.ak.length d5] rfl rfl HX5.out.one.there sizeLead (lead_one _ _ _ _ _ _ _ _ _ _ _) ?_))
  have HX6 := Lib.hid (HX5.out.put l.st l.r l.m (.slice a5 l.ps.length c5) l.has l.val (.slice b5 l.ak.length d5))
  have HO6 := Lib.hid (HO5.out.farC (N := w.heap.size) (by omega) [.int .i64 l.st, .int .i64 l.r, .int .i64 l.m, .slice a5 l.ps.length c5, .bool l.has, .string l.val, .slice b5 l.ak.length d5] 0)
  generalize w5.setCells w.heap.size 0 _ = W6 at HX6 HO6 ⊢
  clear HX5 HO5 HX HC
  obtain ⟨l0, l1, l2, l3, l4, l5, l6⟩ := HX6.out.one.cells
  by_cases hst : l.st = 1
  · have HR1 := Lib.hid (HR.out hst)
    have HSt := Lib.hid hst
    go_upto_region 3 with fail
    clear hst
    obtain ⟨p0, p1, p2, p3, p4, p5⟩ := HPx.out _ HX6.out
    go_upto_region 4 with (go_at_call 71; refine (HPu.out _ (fun k => k < w.heap.size + 1 + 1 + 1) _ (OwnP.of HO6.out.1) (In.le HX6.out.two.lt) HR1.out).mono ?_; rintro e w7 ⟨v7, rfl, ho, hk, hf⟩; obtain ⟨a7, c7, rfl⟩ := ho.slice; have HX7 := Lib.hid (HX6.out.keepN hf.to (Nat.lt_succ_self _)); have HP7 := Lib.hid ho.to; have HQ7 := Lib.hid (HO6.out.2.keptO hk (by decide)); clear ho hk hf l0 l1 l2 l3 l4 l5 l6 p0 p1 p2 p3 p4 p5; obtain ⟨l0, l1, l2, l3, l4, l5, l6⟩ := HX7.out.one.cells; have t3 := HX7.out.one.thaw 3)
    obtain ⟨R, hRe⟩ : ∃ R, putL PromV.mon l.ps p = R := ⟨_, rfl⟩
    have HRe := Lib.hid hRe
    rw [hRe] at HP7 ⊢
    clear hRe
    have HX8 := Lib.hid (HX7.out.set3 (.slice a7 R.length c7))
    have HP8 := Lib.hid (HP7.out.far6L (N := w.heap.size) (by omega) 3 (.slice a7 R.length c7))
    have HQ8 := Lib.hid (HQ7.out.far6L (N := w.heap.size) (by omega) 3 (.slice a7 R.length c7))
    have HO8 : Hid (LdO (w7.setCell ⟨w.heap.size, 3, none⟩ (.slice a7 R.length c7)) (w.heap.size + 1 + 1 + 1) (.slice a7 R.length c7) (.slice b5 l.ak.length d5) { l with ps := R }) := Lib.hid ⟨HP8.out, HQ8.out⟩
    clear HP7 HQ7 HP8 HQ8 HX6 HO6 l0 l1 l2 l3 l4 l5 l6 t3 HX7
    generalize w7.setCell ⟨w.heap.size, 3, none⟩ _ = W8 at HX8 HO8 ⊢
    obtain ⟨l0, l1, l2, l3, l4, l5, l6⟩ := HX8.out.one.cells
    go_wp2_with (refine wpList_store_mid rfl 27 _ _ rfl (w.heap.size + 1 + 1) 0 #[.int .i64 l.st, .int .i64 l.r, .int .i64 l.m, .slice a7 R.length c7, .bool l.has, .string l.val, .slice b5 l.ak.length d5] rfl rfl HX8.out.two.there sizeLead (lead_one _ _ _ _ _ _ _ _ _ _ _) ?_)
    refine bodyPost_ret (ret_cell rfl rfl (HX8.out.two.put l.st l.r l.m (.slice a7 R.length c7) l.has l.val (.slice b5 l.ak.length d5)).range Try.underlying27 rfl sizeLead) rfl ?_
    obtain ⟨hf1, hf2⟩ := HX8.out.fin HO8.out [.int .i64 l.st, .int .i64 l.r, .int .i64 l.m, .slice a7 R.length c7, .bool l.has, .string l.val, .slice b5 l.ak.length d5]
    rw [hear_ps l p HSt.out, HRe.out]; exact ⟨_, _, rfl, hf1, hf2⟩
  · clear HPx HPu HR
    have HSt := Lib.hid hst
    go_upto_region 4 with fail
    clear hst
    go_wp2_with (refine wpList_store_mid rfl 27 _ _ rfl (w.heap.size + 1 + 1) 0 #[.int .i64 l.st, .int .i64 l.r, .int .i64 l.m, .slice a5 l.ps.length c5, .bool l.has, .string l.val, .slice b5 l.ak.length d5] rfl rfl HX6.out.two.there sizeLead (lead_one _ _ _ _ _ _ _ _ _ _ _) ?_)
    refine bodyPost_ret (ret_cell rfl rfl (HX6.out.two.put l.st l.r l.m (.slice a5 l.ps.length c5) l.has l.val (.slice b5 l.ak.length d5)).range Try.underlying27 rfl sizeLead) rfl ?_
    obtain ⟨hf1, hf2⟩ := HX6.out.fin HO6.out [.int .i64 l.st, .int .i64 l.r, .int .i64 l.m, .slice a5 l.ps.length c5, .bool l.has, .string l.val, .slice b5 l.ak.length d5]
    rw [hear_no l p HSt.out]; exact ⟨_, _, rfl, hf1, hf2⟩

set_option maxHeartbeats 8000000 in
set_option maxRecDepth 100000 in
theorem Ack_any (v : Value) (l : LeadV) (n : Int) (w : World) (h : LdR w v l) (hl : l.Small) (hr : l.has = true → Ris (fun z => z) l.ak) : Calls Try.prog 18 #[v, .int .i64 n] w (LdS w (l.ack n)) := by
  have HC := Lib.hid (fun u (hu : Below w.heap.size w u) => copiedL_any v l u (h.keep hu) hl)
  have HSm := Lib.hid hl
  obtain ⟨s, t, rfl, hs, ht⟩ := h
  obtain ⟨sa, sc, rfl⟩ := hs.slice
  obtain ⟨ta, tc, rfl⟩ := ht.slice
  clear hs ht hl
  have HR := Lib.hid hr
  clear hr
  have HX := Lib.hid (ltwo_new w l.st l.r l.m (.slice sa l.ps.length sc) l.has l.val (.slice ta l.ak.length tc)).res
  have HPu := Lib.hid (fun v B u (h : OwnP ic 1 3 u B v l.ak) (hB : In B u) (hr : Ris (fun z => z) l.ak) => putI_any v l.ak n B u h hB hr HSm.out.2)
  unfold LeadV.agg
  unfold LdS LeadV.agg at HC
  go_enter Try.func18, Try.ntmps18
  go_upto_region 1 with fail
  generalize ((w.alloc (.cells #[.int .i64 l.st, .int .i64 l.r, .int .i64 l.m, .slice sa l.ps.length sc, .bool l.has, .string l.val, .slice ta l.ak.length tc] 27)).alloc (.cells #[.int .i64 0, .int .i64 0, .int .i64 0, .slice none 0 0, .bool false, .string { data := #[] }, .slice none 0 0] 27)) = W at HX ⊢
  obtain ⟨l0, l1, l2, l3, l4, l5, l6⟩ := HX.out.one.cells
  go_upto_region 2 with (first
    | (go_at_call 57; refine (HC.out _ HX.out.bel).mono ?_; rintro e w5 ⟨s5, t5, rfl, ho, hb⟩; obtain ⟨a5, c5, rfl⟩ := ho.1.slice; obtain ⟨b5, d5, rfl⟩ := ho.2.slice; have HX5 := Lib.hid (HX.out.keep hb); have HO5 := Lib.hid (ho.mono (show w.heap.size + 1 + 1 ≤ _ from HX.out.two.lt)); clear ho hb l0 l1 l2 l3 l4 l5 l6)
    | (refine wpList_store_mid rfl 27 _ _ rfl w.heap.size 0 #[.int .i64 l.st, .int .i64 l.r, .int .i64 l.m, .slice a5 l.ps.length c5, .bool l.has, .string l.val, .slice b5 l.ak.length d5] rfl rfl HX5.out.one.there sizeLead (lead_one _ _ _ _ _ _ _ _ _ _ _) ?_))
  have HX6 := Lib.hid (HX5.out.put l.st l.r l.m (.slice a5 l.ps.length c5) l.has l.val (.slice b5 l.ak.length d5))
  have HO6 := Lib.hid (HO5.out.farC (N := w.heap.size) (by omega) [.int .i64 l.st, .int .i64 l.r, .int .i64 l.m, .slice a5 l.ps.length c5, .bool l.has, .string l.val, .slice b5 l.ak.length d5] 0)
  generalize w5.setCells w.heap.size 0 _ = W6 at HX6 HO6 ⊢
  clear HX5 HO5 HX HC
  obtain ⟨l0, l1, l2, l3, l4, l5, l6⟩ := HX6.out.one.cells
  by_cases hst : l.has = true
  · have HR1 := Lib.hid (HR.out hst)
    have HSt := Lib.hid hst
    go_upto_region 3 with fail
    clear hst
    go_upto_region 4 with (go_at_call 58; refine (HPu.out _ (fun k => k < w.heap.size + 1 + 1) _ (OwnP.of HO6.out.2) (In.le HX6.out.two.lt) HR1.out).mono ?_; rintro e w7 ⟨v7, rfl, ho, hk, hf⟩; obtain ⟨a7, c7, rfl⟩ := ho.slice; have HX7 := Lib.hid (HX6.out.keepN hf.to (Nat.lt_succ_self _)); have HP7 := Lib.hid ho.to; have HQ7 := Lib.hid (HO6.out.1.keptO hk (by decide)); clear ho hk hf l0 l1 l2 l3 l4 l5 l6; obtain ⟨l0, l1, l2, l3, l4, l5, l6⟩ := HX7.out.one.cells; have t6 := HX7.out.one.thaw 6)
    obtain ⟨R, hRe⟩ : ∃ R, putL (fun z => z) l.ak n = R := ⟨_, rfl⟩
    have HRe := Lib.hid hRe
    rw [hRe] at HP7 ⊢
    clear hRe
    have HX8 := Lib.hid (HX7.out.set6 (.slice a7 R.length c7))
    have HP8 := Lib.hid (HP7.out.far6L (N := w.heap.size) (by omega) 6 (.slice a7 R.length c7))
    have HQ8 := Lib.hid (HQ7.out.far6L (N := w.heap.size) (by omega) 6 (.slice a7 R.length c7))
    have HO8 : Hid (LdO (w7.setCell ⟨w.heap.size, 6, none⟩ (.slice a7 R.length c7)) (w.heap.size + 1 + 1) (.slice a5 l.ps.length c5) (.slice a7 R.length c7) { l with ak := R }) := Lib.hid ⟨HQ8.out, HP8.out⟩
    clear HP7 HQ7 HP8 HQ8 HX6 HO6 l0 l1 l2 l3 l4 l5 l6 t6 HX7
    generalize w7.setCell ⟨w.heap.size, 6, none⟩ _ = W8 at HX8 HO8 ⊢
    obtain ⟨l0, l1, l2, l3, l4, l5, l6⟩ := HX8.out.one.cells
    go_wp2_with (refine wpList_store_mid rfl 27 _ _ rfl (w.heap.size + 1) 0 #[.int .i64 l.st, .int .i64 l.r, .int .i64 l.m, .slice a5 l.ps.length c5, .bool l.has, .string l.val, .slice a7 R.length c7] rfl rfl HX8.out.two.there sizeLead (lead_one _ _ _ _ _ _ _ _ _ _ _) ?_)
    refine bodyPost_ret (ret_cell rfl rfl (HX8.out.two.put l.st l.r l.m (.slice a5 l.ps.length c5) l.has l.val (.slice a7 R.length c7)).range Try.underlying27 rfl sizeLead) rfl ?_
    obtain ⟨hf1, hf2⟩ := HX8.out.fin HO8.out [.int .i64 l.st, .int .i64 l.r, .int .i64 l.m, .slice a5 l.ps.length c5, .bool l.has, .string l.val, .slice a7 R.length c7]
    rw [ack_ps l n HSt.out, HRe.out]; exact ⟨_, _, rfl, hf1, hf2⟩
  · clear HPu HR
    have HSt := Lib.hid hst
    go_upto_region 4 with fail
    clear hst
    go_wp2_with (refine wpList_store_mid rfl 27 _ _ rfl (w.heap.size + 1) 0 #[.int .i64 l.st, .int .i64 l.r, .int .i64 l.m, .slice a5 l.ps.length c5, .bool l.has, .string l.val, .slice b5 l.ak.length d5] rfl rfl HX6.out.two.there sizeLead (lead_one _ _ _ _ _ _ _ _ _ _ _) ?_)
    refine bodyPost_ret (ret_cell rfl rfl (HX6.out.two.put l.st l.r l.m (.slice a5 l.ps.length c5) l.has l.val (.slice b5 l.ak.length d5)).range Try.underlying27 rfl sizeLead) rfl ?_
    obtain ⟨hf1, hf2⟩ := HX6.out.fin HO6.out [.int .i64 l.st, .int .i64 l.r, .int .i64 l.m, .slice a5 l.ps.length c5, .bool l.has, .string l.val, .slice b5 l.ak.length d5]
    rw [ack_no l n HSt.out]; exact ⟨_, _, rfl, hf1, hf2⟩
end Go.Proofs.Ytcofmfjhgbihkaa.crush
