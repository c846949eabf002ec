/- Begin; majorities. -/
import Derived.Test.YtcofmfjhgbihkaaRows
import Derived.Test.YtcofmfjhgbihkaaLeadRes
import Derived.Test.YtcofmfjhgbihkaaLeadNext
namespace Go.Proofs.Ytcofmfjhgbihkaa.crush
open Go.RowKit
open Go.Proofs.Ytcofmfjhgbihkaa.kit Go.Proofs.Ytcofmfjhgbihkaa.own
set_option linter.unusedVariables false
set_option linter.unusedSimpArgs false

theorem one_rowP {w : World} {B : Nat} (h : B ≤ w.heap.size) (p : PromV) : Own prc 6 53 (w.alloc (.cells #[.int .i64 p.mon, .int .i64 p.n, .bool p.has, .int .i64 p.ar, .int .i64 p.am, .string p.val] 53)) B (.slice (some ⟨w.heap.size, 0, none⟩) 1 1) [p] :=
  ⟨rfl, .inr ⟨w.heap.size, 1, #[.int .i64 p.mon, .int .i64 p.n, .bool p.has, .int .i64 p.ar, .int .i64 p.am, .string p.val], rfl, h, alloc_at w _, Nat.le_refl _, by unfold maxLen; simp, rfl, rfl⟩⟩
def beginE (b : BalV) (p : PromV) : LeadV := ⟨1, b.r, b.m, [p], false, { data := #[] }, []⟩

set_option maxHeartbeats 8000000 in
set_option maxRecDepth 100000 in
theorem Begin_any (b : BalV) (p : PromV) (w : World) : Calls Try.prog 30 #[b.val, .agg (prc p).toArray] w (LdS w (beginE b p)) := by
  have h3 := three_atL w (.cells #[.int .i64 b.r, .int .i64 b.m] 23) (.cells #[.int .i64 p.mon, .int .i64 p.n, .bool p.has, .int .i64 p.ar, .int .i64 p.am, .string p.val] 53) (.cells #[.int .i64 0, .int .i64 0, .int .i64 0, .slice none 0 0, .bool false, .string { data := #[] }, .slice none 0 0] 27)
  have hb : Below w.heap.size w (((w.alloc (.cells #[.int .i64 b.r, .int .i64 b.m] 23)).alloc (.cells #[.int .i64 p.mon, .int .i64 p.n, .bool p.has, .int .i64 p.ar, .int .i64 p.am, .string p.val] 53)).alloc (.cells #[.int .i64 0, .int .i64 0, .int .i64 0, .slice none 0 0, .bool false, .string { data := #[] }, .slice none 0 0] 27)) := ((below_new w _).alloc (by simp) _).alloc (by simp; omega) _
  have hs : (((w.alloc (.cells #[.int .i64 b.r, .int .i64 b.m] 23)).alloc (.cells #[.int .i64 p.mon, .int .i64 p.n, .bool p.has, .int .i64 p.ar, .int .i64 p.am, .string p.val] 53)).alloc (.cells #[.int .i64 0, .int .i64 0, .int .i64 0, .slice none 0 0, .bool false, .string { data := #[] }, .slice none 0 0] 27)).heap.size = w.heap.size + 1 + 1 + 1 := by rw [World.size_alloc, World.size_alloc, World.size_alloc]
  have HB := Lib.hid hb; have HS := Lib.hid hs; have HA := Lib.hid h3
  clear hb hs h3
  unfold BalV.val prc
  go_enter Try.func30, Try.ntmps30
  go_upto_region 1 with fail
  generalize ((w.alloc (.cells #[.int .i64 b.r, .int .i64 b.m] 23)).alloc (.cells #[.int .i64 p.mon, .int .i64 p.n, .bool p.has, .int .i64 p.ar, .int .i64 p.am, .string p.val] 53)).alloc (.cells #[.int .i64 0, .int .i64 0, .int .i64 0, .slice none 0 0, .bool false, .string { data := #[] }, .slice none 0 0] 27) = W at HB HS HA ⊢
  obtain ⟨k1, k2, k3⟩ := HA.out
  have c0 : W.cell? ⟨w.heap.size, 0, none⟩ = some (.int .i64 b.r) := by simp [World.cell?, k1]
  have c1 : W.cell? ⟨w.heap.size, 1, none⟩ = some (.int .i64 b.m) := by simp [World.cell?, k1]
  have d0 : W.cell? ⟨w.heap.size + 1, 0, none⟩ = some (.int .i64 p.mon) := by simp [World.cell?, k2]
  have d1 : W.cell? ⟨w.heap.size + 1, 1, none⟩ = some (.int .i64 p.n) := by simp [World.cell?, k2]
  have d2 : W.cell? ⟨w.heap.size + 1, 2, none⟩ = some (.bool p.has) := by simp [World.cell?, k2]
  have d3 : W.cell? ⟨w.heap.size + 1, 3, none⟩ = some (.int .i64 p.ar) := by simp [World.cell?, k2]
  have d4 : W.cell? ⟨w.heap.size + 1, 4, none⟩ = some (.int .i64 p.am) := by simp [World.cell?, k2]
  have d5 : W.cell? ⟨w.heap.size + 1, 5, none⟩ = some (.string p.val) := by simp [World.cell?, k2]
  have hx : LBox W (w.heap.size + 1 + 1) 0 0 0 (.slice none 0 0) false { data := #[] } (.slice none 0 0) := k3
  have HX := Lib.hid (hx.keep (below_new W (.cells #[.int .i64 p.mon, .int .i64 p.n, .bool p.has, .int .i64 p.ar, .int .i64 p.am, .string p.val] 53)))
  have HR := Lib.hid (one_rowP (w := W) (B := w.heap.size + 1 + 1 + 1) (by rw [HS.out]; exact Nat.le_refl _) p)
  have HB2 := Lib.hid (HB.out.trans ((below_new W (.cells #[.int .i64 p.mon, .int .i64 p.n, .bool p.has, .int .i64 p.ar, .int .i64 p.am, .string p.val] 53)).mono HB.out.size))
  clear k1 k2 k3 HA hx
  go_wp2_with (refine wpList_store_mid rfl 27 _ _ rfl (w.heap.size + 1 + 1) 0 #[.int .i64 1, .int .i64 b.r, .int .i64 b.m, .slice (some ⟨W.heap.size, 0, none⟩) 1 1, .bool false, .string { data := #[] }, .slice none 0 0] rfl rfl HX.out.there sizeLead (lead_one _ _ _ _ _ _ _ _ _ _ _) ?_)
  refine bodyPost_ret (ret_cell rfl rfl (HX.out.put 1 b.r b.m (.slice (some ⟨W.heap.size, 0, none⟩) 1 1) false { data := #[] } (.slice none 0 0)).range Try.underlying27 rfl sizeLead) rfl ?_
  exact ⟨_, _, rfl, ⟨(Own.farCL (N := w.heap.size + 1 + 1) (by omega) _ 0 HR.out).mono (by omega), Own.nil _ _ _⟩, Below.setCells HB2.out (b := w.heap.size + 1 + 1) (by omega) 0 _⟩

set_option maxHeartbeats 4000000 in
set_option maxRecDepth 100000 in
theorem majP_any (v : Value) (xs : List PromV) (n : Int) (w : World) (h : Sl prc 6 w v xs) (hn : I64 n) : Calls Try.prog 72 #[v, .int .i64 n] w fun e w' => e = .returned (.bool (majB xs.length n)) ∧ Below w.heap.size w w' := by
  have HM := Lib.hid (fun u => Most_any n hn u)
  have HB := Lib.hid (Below.refl w.heap.size w)
  obtain ⟨a, c, rfl⟩ := h.slice
  clear h hn
  unfold majB
  generalize mostN n = m at HM ⊢
  go_enter Try.func72, Try.ntmps72
  by_cases h : 0 < n
  · go_wp2_with (go_at_call 26; refine (HM.out _).mono ?_; rintro e w1 ⟨rfl, rfl⟩)
    go_ret
    exact ⟨by simp [h], HB.out⟩
  · go_wp2
    go_ret
    exact ⟨by simp [show ¬ 0 < n by omega], HB.out⟩

set_option maxHeartbeats 4000000 in
set_option maxRecDepth 100000 in
theorem majI_any (v : Value) (xs : List Int) (n : Int) (w : World) (h : Sl ic 1 w v xs) (hn : I64 n) : Calls Try.prog 60 #[v, .int .i64 n] w fun e w' => e = .returned (.bool (majB xs.length n)) ∧ Below w.heap.size w w' := by
  have HM := Lib.hid (fun u => Most_any n hn u)
  have HB := Lib.hid (Below.refl w.heap.size w)
  obtain ⟨a, c, rfl⟩ := h.slice
  clear h hn
  unfold majB
  generalize mostN n = m at HM ⊢
  go_enter Try.func60, Try.ntmps60
  by_cases h : 0 < n
  · go_wp2_with (go_at_call 26; refine (HM.out _).mono ?_; rintro e w1 ⟨rfl, rfl⟩)
    go_ret
    exact ⟨by simp [h], HB.out⟩
  · go_wp2
    go_ret
    exact ⟨by simp [show ¬ 0 < n by omega], HB.out⟩

set_option maxHeartbeats 4000000 in
set_option maxRecDepth 100000 in
theorem Enough_any (v : Value) (l : LeadV) (n : Int) (w : World) (h : LdR w v l) (hn : I64 n) : Calls Try.prog 32 #[v, .int .i64 n] w fun e w' => e = .returned (.bool (l.enough n)) ∧ Below w.heap.size w w' := by
  obtain ⟨s, t, rfl, hs, ht⟩ := h
  obtain ⟨sa, sc, rfl⟩ := hs.slice
  obtain ⟨ta, tc, rfl⟩ := ht.slice
  have HM := Lib.hid (fun u (hu : Below w.heap.size w u) => majP_any (.slice sa l.ps.length sc) l.ps n u (hs.keep hu) hn)
  have HB := Lib.hid (below_new w (.cells #[.int .i64 l.st, .int .i64 l.r, .int .i64 l.m, .slice sa l.ps.length sc, .bool l.has, .string l.val, .slice ta l.ak.length tc] 27))
  clear hs ht hn
  unfold LeadV.agg LeadV.enough
  generalize majB l.ps.length n = q at HM ⊢
  generalize l.st = st at HM HB ⊢
  by_cases hst : st = 1
  · subst hst
    go_enter Try.func32, Try.ntmps32
    go_wp2_with (go_at_call 72; refine (HM.out _ HB.out).mono ?_; rintro e w1 ⟨rfl, hb⟩; have HB1 := Lib.hid (HB.out.trans (hb.mono HB.out.size)); clear hb)
    go_ret
    exact ⟨by simp, HB1.out⟩
  · have HSt := Lib.hid hst
    go_enter Try.func32, Try.ntmps32
    go_wp2
    go_ret
    exact ⟨by simp [hst], HB.out⟩

set_option maxHeartbeats 4000000 in
set_option maxRecDepth 100000 in
theorem Chosen_any (v : Value) (l : LeadV) (n : Int) (w : World) (h : LdR w v l) (hn : I64 n) : Calls Try.prog 22 #[v, .int .i64 n] w fun e w' => e = .returned (.bool (l.chosen n)) ∧ Below w.heap.size w w' := by
  obtain ⟨s, t, rfl, hs, ht⟩ := h
  obtain ⟨sa, sc, rfl⟩ := hs.slice
  obtain ⟨ta, tc, rfl⟩ := ht.slice
  have HM := Lib.hid (fun u (hu : Below w.heap.size w u) => majI_any (.slice ta l.ak.length tc) l.ak n u (ht.keep hu) hn)
  have HB := Lib.hid (below_new w (.cells #[.int .i64 l.st, .int .i64 l.r, .int .i64 l.m, .slice sa l.ps.length sc, .bool l.has, .string l.val, .slice ta l.ak.length tc] 27))
  clear hs ht hn
  unfold LeadV.agg LeadV.chosen
  generalize majB l.ak.length n = q at HM ⊢
  generalize l.has = has at HM HB ⊢
  cases has
  case true =>
    go_enter Try.func22, Try.ntmps22
    go_wp2_with (go_at_call 60; refine (HM.out _ HB.out).mono ?_; rintro e w1 ⟨rfl, hb⟩; have HB1 := Lib.hid (HB.out.trans (hb.mono HB.out.size)); clear hb)
    go_ret
    exact ⟨by simp, HB1.out⟩
  case false =>
    have hst : True := trivial
    go_enter Try.func22, Try.ntmps22
    go_wp2
    go_ret
    exact ⟨by simp [hst], HB.out⟩
end Go.Proofs.Ytcofmfjhgbihkaa.crush
