/- slices.Delete of one row. -/
import Derived.Test.YtalnmbfmfeaohaaGreatRows
import Derived.Test.YtalnmbfmfeaohaaGreatFlightCompW
import Derived.Deep.RegionLaw
namespace Go.Proofs.YtalnmbfmfeaohaaGreat.flight
open Go.RowKit
open Go.Proofs.YtalnmbfmfeaohaaGreat.kit Go.Proofs.YtalnmbfmfeaohaaGreat.own
set_option linter.unusedVariables false

theorem setCells_append (g : Nat) : ∀ (a b : List Value) (o : Nat) (w : World), w.setCells g o (a ++ b) = (w.setCells g o a).setCells g (o + a.length) b
  | [], b, o, w => rfl
  | v :: r, b, o, w => by
    rw [List.cons_append, World.setCells, World.setCells, setCells_append g r b (o + 1)]
    rw [List.length_cons, show o + 1 + r.length = o + (r.length + 1) by omega]
section
variable {α : Type} {enc : α → List Value} {k : Nat}
/-- Rows are laid over others. -/
theorem OwnAt.setRows {e g cap : Nat} (hk : ∀ x, (enc x).length = k) (hk0 : 0 < k) : ∀ (zs : List α) {w : World} {xs : List α} (h : OwnAt enc k e w g cap xs) (i : Nat) (hi : i + zs.length ≤ xs.length),
    OwnAt enc k e (w.setCells g (i * k) (zs.flatMap enc)) g cap (xs.take i ++ zs ++ xs.drop (i + zs.length))
  | [], w, xs, h, i, hi => by
    show OwnAt enc k e w g cap _
    simpa using h
  | z :: zs, w, xs, h, i, hi => by
    have hi' : i < xs.length := by simp only [List.length_cons] at hi; omega
    rw [List.flatMap_cons, setCells_append, hk, show i * k + k = (i + 1) * k by rw [Nat.succ_mul]]
    have h1 := OwnAt.setRows hk hk0 zs (h.set hk hk0 i hi' z) (i + 1) (by simp only [List.length_set, List.length_cons] at hi ⊢; omega)
    have e1 : (xs.set i z).take (i + 1) = xs.take i ++ [z] := take_set xs i hi' z
    have e2 : (xs.set i z).drop (i + 1 + zs.length) = xs.drop (i + (z :: zs).length) := by
      rw [List.drop_set_of_lt (by omega), List.length_cons, show i + 1 + zs.length = i + (zs.length + 1) by omega]
    rw [e1, e2] at h1
    simpa using h1
theorem flat_one (h1 : ∀ x, ∀ v ∈ enc x, v.oneCell' = true) (xs : List α) : ∀ u ∈ xs.flatMap enc, u.oneCell' = true := by
  intro u hu
  obtain ⟨y, _, hy⟩ := List.mem_flatMap.1 hu
  exact h1 y u hy
end

set_option maxHeartbeats 8000000 in
set_option maxRecDepth 100000 in
theorem del1F_any (g cap : Nat) (xs : List Frm) (i : Nat) (hi : i < xs.length) (w : World) (h : OwnAt fc 4 38 w g cap xs) :
    Calls Tryz.prog 42 #[.slice (some ⟨g, 0, none⟩) xs.length cap, .int .i64 i, .int .i64 ((i + 1 : Nat) : Int)] w fun e w' => e = .returned (.slice (some ⟨g, 0, none⟩) (xs.eraseIdx i).length cap) ∧ OwnAt fc 4 38 w' g cap (xs.eraseIdx i) ∧ w.grownBy w' (some g) := by
  have hl := h.le; have hm := h.max
  unfold maxLen at hm
  obtain ⟨L, hL⟩ : ∃ L, xs.length = L := ⟨_, rfl⟩
  have hd : (xs.drop (i + 1)).length = L - (i + 1) := by rw [List.length_drop, hL]
  have hat1 := OwnAt.setRows fc_len (by decide) (xs.drop (i + 1)) (h.block (w' := w.drew) rfl) i (by omega)
  have he : (xs.take i ++ xs.drop (i + 1) ++ xs.drop (i + (xs.drop (i + 1)).length)).take (L - 1) = xs.eraseIdx i := by
    rw [List.eraseIdx_eq_take_drop_succ]
    refine List.take_left' ?_
    rw [List.length_append, List.length_take, hd, hL, Nat.min_eq_left (by omega)]
    omega
  have hlen : (xs.take i ++ xs.drop (i + 1) ++ xs.drop (i + (xs.drop (i + 1)).length)).length = L := by
    rw [List.length_append, List.length_append, hd, List.length_take, List.length_drop, hL, Nat.min_eq_left (by omega)]
    omega
  have hel : (xs.eraseIdx i).length = L - 1 := by rw [List.length_eraseIdx, if_pos hi, hL]
  have hsrc0 : ∀ t u, ((xs.drop (i + 1)).flatMap fc)[t]? = some u → w.cell? ⟨g, (i + 1) * 4 + t, none⟩ = some u := by
    intro t u hu
    have ht : t < (xs.drop (i + 1)).length * 4 := by have := (List.getElem?_eq_some_iff.1 hu).1; rwa [flat_len fc_len] at this
    have hq : t / 4 < (xs.drop (i + 1)).length := by omega
    have ed : t = t / 4 * 4 + t % 4 := by omega
    rw [ed, flat_at fc_len (xs.drop (i + 1)) (t / 4) (t % 4) hq (by omega)] at hu
    have hr := h.row fc_len (i + 1 + t / 4) (by omega) (t % 4) u (by rw [← hu, List.getElem_drop])
    rw [show (i + 1 + t / 4) * 4 + t % 4 = (i + 1) * 4 + t by omega] at hr
    exact hr
  obtain ⟨A, hA, hsrc⟩ : ∃ A : Addr, (if cap = i + 1 then some (⟨g, 0, none⟩ : Addr) else some ⟨g, (i + 1) * 4, none⟩) = some A ∧ Hid (∀ t u, ((xs.drop (i + 1)).flatMap fc)[t]? = some u → w.drew.cell? (A.add t) = some u) := by
    by_cases hc : cap = i + 1
    · refine ⟨⟨g, 0, none⟩, by simp [hc], Lib.hid fun t u hu => ?_⟩
      have h0 : xs.drop (i + 1) = [] := List.eq_nil_of_length_eq_zero (by omega)
      rw [h0] at hu
      simp at hu
    · refine ⟨⟨g, (i + 1) * 4, none⟩, by simp [hc], Lib.hid fun t u hu => ?_⟩
      rw [add_plain']
      exact hsrc0 t u hu
  have s1 : Hid (((xs.drop (i + 1)).flatMap fc).length = (L - (i + 1)) * 4) := Lib.hid (by rw [flat_len fc_len, hd])
  have s2 : Hid (∀ u ∈ (xs.drop (i + 1)).flatMap fc, u.oneCell' = true) := Lib.hid (flat_one fc_one _)
  have s3 : Hid (∀ t, t < ((xs.drop (i + 1)).flatMap fc).length → (w.drew.cell? ⟨g, 0 + i * 4 + t, none⟩).isSome = true ∧ w.drew.frozen? ⟨g, 0 + i * 4 + t, none⟩ = false) := Lib.hid (by
    intro t ht
    rw [s1.out] at ht
    have h1 := h.there (i + t / 4) (by omega) (t % 4) (Nat.mod_lt _ (by decide))
    rw [show (i + t / 4) * 4 + t % 4 = 0 + i * 4 + t by omega] at h1
    exact h1)
  obtain ⟨W1, hW1⟩ : ∃ W1, W1 = w.drew.setCells g (0 + i * 4) ((xs.drop (i + 1)).flatMap fc) := ⟨_, rfl⟩
  have hg1 : w.grownBy W1 (some g) := by
    rw [hW1]
    exact grown_trans (grown_of_below (show Below w.heap.size w w.drew from ⟨rfl, rfl, rfl, Nat.le_refl _, fun _ _ => rfl⟩) _) (grown_setCells _ _ _ _)
  rw [show i * 4 = 0 + i * 4 by omega, ← hW1] at hat1
  have hth : W1.there g ((L - 1) * 4) (1 * 4) := by
    intro t ht
    have h1 := hat1.there (L - 1) (by omega) t (by omega)
    exact h1
  have hcl := fun ty => run_clear_frm W1 ty g ((L - 1) * 4) 1 (cap - (L - 1)) (by omega) hth
  have htk := hat1.take fc_len (L - 1) (by omega)
  rw [he] at htk
  have htl := htk.tail fc_len (zfr 1)
  rw [hel] at htl
  have hgc := grown_trans hg1 (grown_setCells W1 g ((L - 1) * 4) (zfr 1))
  obtain ⟨w6, hw6⟩ : ∃ w6, W1.setCells g ((L - 1) * 4) (zfr 1) = w6 := ⟨_, rfl⟩
  rw [hw6] at htl hgc
  simp only [hw6] at hcl
  have HTl := Lib.hid htl; have HGc := Lib.hid hgc
  have hW : Hid (W1 = w.drew.setCells g (0 + i * 4) ((xs.drop (i + 1)).flatMap fc)) := Lib.hid hW1
  obtain ⟨i0, hi0, -, hz2, -⟩ := info_parts infoFrm
  have HI0 := Lib.hid hi0; have HZ2 := Lib.hid hz2
  have hic : (i : Int) ≤ cap := by omega
  have hjc : ((i + 1 : Nat) : Int) ≤ cap := by omega
  have hiL : i + 1 ≤ L := by omega
  have hi1 : (0 : Int) ≤ (i : Int) + 1 := by omega
  have hi2 : (i : Int) + 1 ≤ L := by omega
  have HEl := Lib.hid hel
  have hlc : L ≤ cap := by omega
  rw [hL, hel]
  have hrm : Hid (i + (L - (i + 1)) = L - 1) := Lib.hid (by omega)
  have hrm2 : Hid (L - (L - 1) = 1) := Lib.hid (by omega)
  clear hsrc0 hi hd hat1 he hlen hel hg1 hth htk htl hgc hw6 hi0 hz2 h hW1 hL hl
  go_enter Tryz.func42, Tryz.ntmps42
  go_wp2_with fail
  go_region_law (refine step_append_room rfl (.tmp 22) (.tmp 25) 22 rfl 38 i0 4 Tryz.underlying22 HI0.out HZ2.out g 0 i cap (by simp [Act.eval, Act.put]) A (L - (i + 1)) (cap - (i + 1)) ((xs.drop (i + 1)).flatMap fc) (by simp [Act.eval, Act.put]) s1.out hsrc.out s2.out (by omega) s3.out ?_; rw [← hW.out])
  rw [hrm.out]
  obtain ⟨M, hM⟩ : ∃ M, L - 1 = M := ⟨_, rfl⟩
  obtain rfl : L = M + 1 := by omega
  simp only [Nat.add_sub_cancel] at hcl HEl ⊢
  have hMc : (M : Int) ≤ cap := by omega
  have hMc2 : ((M : Int) + 1) ≤ cap := by omega
  have hMz : (0 : Int) ≤ (M : Int) + 1 := by omega
  have hMm : (M : Int) ≤ (M : Int) + 1 := by omega
  clear hM hrm hrm2 hA hic hjc hiL hi1 hi2
  go_wp2
  go_ret
  exact ⟨rfl, HTl.out, HGc.out⟩

set_option maxHeartbeats 8000000 in
set_option maxRecDepth 100000 in
theorem del1W_any (g cap : Nat) (xs : List Wy) (i : Nat) (hi : i < xs.length) (w : World) (h : OwnAt wc 2 40 w g cap xs) :
    Calls Tryz.prog 45 #[.slice (some ⟨g, 0, none⟩) xs.length cap, .int .i64 i, .int .i64 ((i + 1 : Nat) : Int)] w fun e w' => e = .returned (.slice (some ⟨g, 0, none⟩) (xs.eraseIdx i).length cap) ∧ OwnAt wc 2 40 w' g cap (xs.eraseIdx i) ∧ w.grownBy w' (some g) := by
  have hl := h.le; have hm := h.max
  unfold maxLen at hm
  obtain ⟨L, hL⟩ : ∃ L, xs.length = L := ⟨_, rfl⟩
  have hd : (xs.drop (i + 1)).length = L - (i + 1) := by rw [List.length_drop, hL]
  have hat1 := OwnAt.setRows wc_len (by decide) (xs.drop (i + 1)) (h.block (w' := w.drew) rfl) i (by omega)
  have he : (xs.take i ++ xs.drop (i + 1) ++ xs.drop (i + (xs.drop (i + 1)).length)).take (L - 1) = xs.eraseIdx i := by
    rw [List.eraseIdx_eq_take_drop_succ]
    refine List.take_left' ?_
    rw [List.length_append, List.length_take, hd, hL, Nat.min_eq_left (by omega)]
    omega
  have hlen : (xs.take i ++ xs.drop (i + 1) ++ xs.drop (i + (xs.drop (i + 1)).length)).length = L := by
    rw [List.length_append, List.length_append, hd, List.length_take, List.length_drop, hL, Nat.min_eq_left (by omega)]
    omega
  have hel : (xs.eraseIdx i).length = L - 1 := by rw [List.length_eraseIdx, if_pos hi, hL]
  have hsrc0 : ∀ t u, ((xs.drop (i + 1)).flatMap wc)[t]? = some u → w.cell? ⟨g, (i + 1) * 2 + t, none⟩ = some u := by
    intro t u hu
    have ht : t < (xs.drop (i + 1)).length * 2 := by have := (List.getElem?_eq_some_iff.1 hu).1; rwa [flat_len wc_len] at this
    have hq : t / 2 < (xs.drop (i + 1)).length := by omega
    have ed : t = t / 2 * 2 + t % 2 := by omega
    rw [ed, flat_at wc_len (xs.drop (i + 1)) (t / 2) (t % 2) hq (by omega)] at hu
    have hr := h.row wc_len (i + 1 + t / 2) (by omega) (t % 2) u (by rw [← hu, List.getElem_drop])
    rw [show (i + 1 + t / 2) * 2 + t % 2 = (i + 1) * 2 + t by omega] at hr
    exact hr
  obtain ⟨A, hA, hsrc⟩ : ∃ A : Addr, (if cap = i + 1 then some (⟨g, 0, none⟩ : Addr) else some ⟨g, (i + 1) * 2, none⟩) = some A ∧ Hid (∀ t u, ((xs.drop (i + 1)).flatMap wc)[t]? = some u → w.drew.cell? (A.add t) = some u) := by
    by_cases hc : cap = i + 1
    · refine ⟨⟨g, 0, none⟩, by simp [hc], Lib.hid fun t u hu => ?_⟩
      have h0 : xs.drop (i + 1) = [] := List.eq_nil_of_length_eq_zero (by omega)
      rw [h0] at hu
      simp at hu
    · refine ⟨⟨g, (i + 1) * 2, none⟩, by simp [hc], Lib.hid fun t u hu => ?_⟩
      rw [add_plain']
      exact hsrc0 t u hu
  have s1 : Hid (((xs.drop (i + 1)).flatMap wc).length = (L - (i + 1)) * 2) := Lib.hid (by rw [flat_len wc_len, hd])
  have s2 : Hid (∀ u ∈ (xs.drop (i + 1)).flatMap wc, u.oneCell' = true) := Lib.hid (flat_one wc_one _)
  have s3 : Hid (∀ t, t < ((xs.drop (i + 1)).flatMap wc).length → (w.drew.cell? ⟨g, 0 + i * 2 + t, none⟩).isSome = true ∧ w.drew.frozen? ⟨g, 0 + i * 2 + t, none⟩ = false) := Lib.hid (by
    intro t ht
    rw [s1.out] at ht
    have h1 := h.there (i + t / 2) (by omega) (t % 2) (Nat.mod_lt _ (by decide))
    rw [show (i + t / 2) * 2 + t % 2 = 0 + i * 2 + t by omega] at h1
    exact h1)
  obtain ⟨W1, hW1⟩ : ∃ W1, W1 = w.drew.setCells g (0 + i * 2) ((xs.drop (i + 1)).flatMap wc) := ⟨_, rfl⟩
  have hg1 : w.grownBy W1 (some g) := by
    rw [hW1]
    exact grown_trans (grown_of_below (show Below w.heap.size w w.drew from ⟨rfl, rfl, rfl, Nat.le_refl _, fun _ _ => rfl⟩) _) (grown_setCells _ _ _ _)
  rw [show i * 2 = 0 + i * 2 by omega, ← hW1] at hat1
  have hth : W1.there g ((L - 1) * 2) (1 * 2) := by
    intro t ht
    have h1 := hat1.there (L - 1) (by omega) t (by omega)
    exact h1
  have hcl := fun ty => run_clear_way W1 ty g ((L - 1) * 2) 1 (cap - (L - 1)) (by omega) hth
  have htk := hat1.take wc_len (L - 1) (by omega)
  rw [he] at htk
  have htl := htk.tail wc_len (zwy 1)
  rw [hel] at htl
  have hgc := grown_trans hg1 (grown_setCells W1 g ((L - 1) * 2) (zwy 1))
  obtain ⟨w6, hw6⟩ : ∃ w6, W1.setCells g ((L - 1) * 2) (zwy 1) = w6 := ⟨_, rfl⟩
  rw [hw6] at htl hgc
  simp only [hw6] at hcl
  have HTl := Lib.hid htl; have HGc := Lib.hid hgc
  have hW : Hid (W1 = w.drew.setCells g (0 + i * 2) ((xs.drop (i + 1)).flatMap wc)) := Lib.hid hW1
  obtain ⟨i0, hi0, -, hz2, -⟩ := info_parts infoWay
  have HI0 := Lib.hid hi0; have HZ2 := Lib.hid hz2
  have hic : (i : Int) ≤ cap := by omega
  have hjc : ((i + 1 : Nat) : Int) ≤ cap := by omega
  have hiL : i + 1 ≤ L := by omega
  have hi1 : (0 : Int) ≤ (i : Int) + 1 := by omega
  have hi2 : (i : Int) + 1 ≤ L := by omega
  have HEl := Lib.hid hel
  have hlc : L ≤ cap := by omega
  rw [hL, hel]
  have hrm : Hid (i + (L - (i + 1)) = L - 1) := Lib.hid (by omega)
  have hrm2 : Hid (L - (L - 1) = 1) := Lib.hid (by omega)
  clear hsrc0 hi hd hat1 he hlen hel hg1 hth htk htl hgc hw6 hi0 hz2 h hW1 hL hl
  go_enter Tryz.func45, Tryz.ntmps45
  go_wp2_with fail
  go_region_law (refine step_append_room rfl (.tmp 22) (.tmp 25) 23 rfl 40 i0 2 Tryz.underlying23 HI0.out HZ2.out g 0 i cap (by simp [Act.eval, Act.put]) A (L - (i + 1)) (cap - (i + 1)) ((xs.drop (i + 1)).flatMap wc) (by simp [Act.eval, Act.put]) s1.out hsrc.out s2.out (by omega) s3.out ?_; rw [← hW.out])
  rw [hrm.out]
  obtain ⟨M, hM⟩ : ∃ M, L - 1 = M := ⟨_, rfl⟩
  obtain rfl : L = M + 1 := by omega
  simp only [Nat.add_sub_cancel] at hcl HEl ⊢
  have hMc : (M : Int) ≤ cap := by omega
  have hMc2 : ((M : Int) + 1) ≤ cap := by omega
  have hMz : (0 : Int) ≤ (M : Int) + 1 := by omega
  have hMm : (M : Int) ≤ (M : Int) + 1 := by omega
  clear hM hrm hrm2 hA hic hjc hiL hi1 hi2
  go_wp2
  go_ret
  exact ⟨rfl, HTl.out, HGc.out⟩

end Go.Proofs.YtalnmbfmfeaohaaGreat.flight
