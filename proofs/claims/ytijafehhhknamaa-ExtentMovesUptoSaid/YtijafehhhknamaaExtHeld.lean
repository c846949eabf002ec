/- What is held: rows of extents' slices; the state of takings and givings. -/
import Derived.Test.YtijafehhhknamaaRows
import Derived.Test.YtijafehhhknamaaExtLawT
import Derived.Test.YtijafehhhknamaaExtSec
import Derived.Test.YtijafehhhknamaaExtMath3
namespace Go.Proofs.Ytijafehhhknamaa.ext
open Go.RowKit
open Go.Proofs.Ytijafehhhknamaa.kit Go.Proofs.Ytijafehhhknamaa.own
set_option linter.unusedVariables false

/-- A slice as a value. -/
abbrev SV := Option Addr × Nat × Nat
def vc (x : SV) : List Value := [.slice x.1 x.2.1 x.2.2]
theorem vc_len (x : SV) : (vc x).length = 1 := rfl
theorem vc_one (x : SV) : ∀ v ∈ vc x, v.oneCell' = true := by
  intro v hv
  simp [vc] at hv
  subst hv; rfl
theorem infoSl : (Try.prog.info? 22).map (fun i => (i.zero, i.size, i.bytes)) = some (some (.slice none 0 0), 1, 24) := by kernel_rfl
/-- A row of another type stays as it is. -/
theorem Own.typed {α : Type} {enc : α → List Value} {k e e' B B' : Nat} {W W' : World} {v : Value} {xs : List α} (h : Own enc k e W B v xs) (hk : Kept B' e' W W') (hne : e ≠ e') : Own enc k e W' B v xs := by
  obtain ⟨h1, h2⟩ := id h
  refine ⟨h1, ?_⟩
  rcases h2 with ⟨rfl, h0⟩ | ⟨g, cap, cur, rfl, hB, hg, hr⟩
  · exact .inl ⟨rfl, h0⟩
  · exact .inr ⟨g, cap, cur, rfl, hB, hk.box hne hg, hr⟩
/-- Extents of the call's own, wherever. -/
abbrev OwE (W : World) (v : Value) (xs : List Wy) : Prop := Own wc 2 48 W 0 v xs
/-- What is held: slices in a row, each of extents. -/
structure HeldAt (W : World) (B : Nat) (v : Value) (svs : List SV) (hs : List (List Wy)) : Prop where
  row : Own vc 1 22 W B v svs
  len : hs.length = svs.length
  each : ∀ i (h : i < hs.length) (h' : i < svs.length), OwE W (.slice svs[i].1 svs[i].2.1 svs[i].2.2) hs[i]
theorem HeldAt.below {W W' : World} {B : Nat} {v : Value} {svs : List SV} {hs : List (List Wy)} (h : HeldAt W B v svs hs) (hb : Below W.heap.size W W') : HeldAt W' B v svs hs :=
  ⟨h.row.below hb, h.len, fun i h1 h2 => (h.each i h1 h2).below hb⟩
theorem HeldAt.nil (W : World) (B : Nat) : HeldAt W B (.slice none 0 0) [] [] := ⟨Own.nil _ _ _, rfl, fun i h => by simp at h⟩

/-- How often a sector is in one of many. -/
def cnts (hs : List (List Wy)) (k : Int) : Nat := (hs.map fun h => cnt h k).sum
theorem cnts_append (a b : List (List Wy)) (k : Int) : cnts (a ++ b) k = cnts a k + cnts b k := by unfold cnts; rw [List.map_append, List.sum_append]
theorem cnts_cons (a : List Wy) (b : List (List Wy)) (k : Int) : cnts (a :: b) k = cnt a k + cnts b k := by unfold cnts; rw [List.map_cons, List.sum_cons]
/-- Each sector is in one place. -/
structure Placed (t : Int) (free : List Wy) (hs : List (List Wy)) : Prop where
  fit : FitF t free
  lie : ∀ h ∈ hs, ∀ x ∈ h, lieE t x = true
  one : ∀ k : Int, 0 ≤ k → k < t → cnt free k + cnts hs k = 1
  none : ∀ k : Int, ¬ (0 ≤ k ∧ k < t) → cnt free k + cnts hs k = 0
theorem Placed.le {t : Int} {free : List Wy} {hs : List (List Wy)} (h : Placed t free hs) (k : Int) : cnt free k + cnts hs k ≤ 1 := by
  by_cases hk : 0 ≤ k ∧ k < t
  · rw [h.one k hk.1 hk.2]; omega
  · rw [h.none k hk]; omega
theorem placed_all {t : Int} (h1 : 1 ≤ t) (h2 : t ≤ 65536) : Placed t (allE t) [] := by
  have he : allE t = [(0, t)] := by unfold allE; rw [if_pos ⟨h1, h2⟩]
  have hc : ∀ k, cnt [(0, t)] k + cnts [] k = if 0 ≤ k ∧ k < t then 1 else 0 := fun k => by
    rw [cnt_cons]
    have h0 : cnt [] k = 0 := rfl
    have h3 : cnts [] k = 0 := rfl
    by_cases hk : 0 ≤ k ∧ k < t
    · rw [if_pos hk, if_pos ((inE_iff _ _).2 ⟨by simp only; omega, by simp only; omega⟩)]; omega
    · rw [if_neg hk, if_neg (fun h => hk (by have := (inE_iff _ _).1 h; simp only at this; omega))]; omega
  rw [he]
  refine ⟨⟨by simp [rowE]; omega, ?_, List.pairwise_singleton _ _⟩, fun h hh => (by cases hh), fun k h3 h4 => by rw [hc, if_pos ⟨h3, h4⟩], fun k hk => by rw [hc, if_neg hk]⟩
  intro x hx
  rw [List.mem_singleton.1 hx]
  exact (lieE_iff _ _).2 ⟨by simp only; omega, by simp only; omega, by simp only; omega⟩
theorem Placed.take {t : Int} {free : List Wy} {hs : List (List Wy)} (h : Placed t free hs) {n : Int} {tk lf : List Wy} (ht : TkOk t free n tk lf) : Placed t lf (hs ++ [tk]) := by
  have hc : ∀ k, cnt lf k + cnts (hs ++ [tk]) k = cnt free k + cnts hs k := fun k => by
    rw [cnts_append, cnts_cons]
    have := ht.cnt k
    have h3 : cnts [] k = 0 := rfl
    omega
  refine ⟨ht.fit, ?_, fun k h1 h2 => by rw [hc]; exact h.one k h1 h2, fun k hk => by rw [hc]; exact h.none k hk⟩
  intro g hg x hx
  rcases List.mem_append.1 hg with hg | hg
  · exact h.lie g hg x hx
  · rw [List.mem_singleton.1 hg] at hx; exact ht.lie x hx
theorem cnts_erase (hs : List (List Wy)) (i : Nat) (hi : i < hs.length) (k : Int) : cnts hs k = cnts (hs.take i ++ hs.drop (i + 1)) k + cnt hs[i] k := by
  have h : hs = hs.take i ++ (hs[i] :: hs.drop (i + 1)) := by rw [← List.drop_eq_getElem_cons hi, List.take_append_drop]
  conv => lhs; rw [h]
  rw [cnts_append, cnts_cons, cnts_append]
  omega
theorem Placed.give {t : Int} {free : List Wy} {hs : List (List Wy)} (h : Placed t free hs) {i : Nat} (hi : i < hs.length) {r : List Wy} {c : Int} (hg : GiveR t free hs[i] r c) : c = 0 ∧ Placed t r (hs.take i ++ hs.drop (i + 1)) := by
  have hle : ∀ k, cnt (free ++ hs[i]) k ≤ 1 := fun k => by
    rw [cnt_append]
    have := h.le k
    have := cnts_erase hs i hi k
    omega
  have hl := h.lie _ (List.getElem_mem hi)
  rcases hg with ⟨a1, _, _⟩ | ⟨_, ⟨k, a2⟩, _, _⟩ | ⟨_, _, hc, a3, a4, a5⟩
  · exact absurd hl a1
  · have := hle k; omega
  · refine ⟨hc, ?_⟩
    have hr1 := flat_cnt r a3 a4.flat
    have hcr : ∀ k, cnt r k = cnt free k + cnt hs[i] k := fun k => by
      have h1 := a5 k
      rw [cov_cnt, cov_cnt, cov_cnt] at h1
      have h2 := hr1 k
      have h3 := hle k
      rw [cnt_append] at h3
      by_cases h0 : 0 < cnt r k
      · have := h1.1 h0; omega
      · have : ¬ (0 < cnt free k ∨ 0 < cnt hs[i] k) := fun hh => h0 (h1.2 hh)
        omega
    have hlr := lie_of_cov (t := t) a3 (fun k hk => by
      rcases (a5 k).1 hk with h1 | h1
      · exact cov_lie h.fit.lie k h1
      · exact cov_lie hl k h1)
    have hc2 : ∀ k, cnt r k + cnts (hs.take i ++ hs.drop (i + 1)) k = cnt free k + cnts hs k := fun k => by
      rw [hcr k, cnts_erase hs i hi k]; omega
    refine ⟨⟨h.fit.row, hlr, a4⟩, ?_, fun k h1 h2 => by rw [hc2]; exact h.one k h1 h2, fun k hk => by rw [hc2]; exact h.none k hk⟩
    intro g hg x hx
    rcases List.mem_append.1 hg with hg | hg
    · exact h.lie g (List.mem_of_mem_take hg) x hx
    · exact h.lie g (List.mem_of_mem_drop hg) x hx

end Go.Proofs.Ytijafehhhknamaa.ext
