/- Places, once more: as many as there may be. -/
import Derived.Test.YtngmcolbpdinmaaRuleMath
namespace Go.Proofs.Ytngmcolbpdinmaa.crush
set_option linter.unusedVariables false

theorem put_full {hs ws : List Int} {x : Nat} {size d : Int} {r : Nat} (h : (placeF (tryE hs ws x) (domsE d hs) size r).length = mostE hs ws size d) (hlt : ((placeF (tryE hs ws x) (domsE d hs) size r).length : Int) < size) (k : Nat) : putO (domsE d hs) (placeF (tryE hs ws x) (domsE d hs) size r) (tryE hs ws x k) = placeF (tryE hs ws x) (domsE d hs) size r := by
  cases ht : tryE hs ws x k with
  | none => rfl
  | some v =>
    have hv := tryE_some ht
    show put1 _ _ v = _
    unfold put1
    rw [if_pos]
    obtain ⟨l, hl⟩ : ∃ l, placeF (tryE hs ws x) (domsE d hs) size r = l := ⟨_, rfl⟩
    rw [hl] at h hlt ⊢
    have hlt2 : l.length < size.toNat := by omega
    have hm : l.length = (onceL (withD hs ws d hs.length)).length := by unfold mostE at h; omega
    have hnd := placeF_dom (tryE hs ws x) (domsE d hs) size r
    have hmem := placeF_mem (tryE hs ws x) (domsE d hs) size (fun a => a < hs.length ∧ 0 < wtAt ws a) (fun r v h => tryE_some h) r
    rw [hl] at hnd hmem
    have hp := pigeon hnd (b := onceL (withD hs ws d hs.length)) (fun z hz => by
      obtain ⟨a, ha, rfl⟩ := List.mem_map.1 hz
      rw [onceL_mem, withD_mem]
      exact ⟨a, (hmem a ha).1, (hmem a ha).2, rfl⟩) (by rw [List.length_map]; omega) ((domsE d hs).getD v 0) (by
        rw [onceL_mem, withD_mem]
        exact ⟨v, hv.1, hv.2, rfl⟩)
    obtain ⟨a, ha, he⟩ := List.mem_map.1 hp
    unfold hasD
    rw [List.any_eq_true]
    exact ⟨a, ha, by simpa using he⟩
/-- Not more than there may be is sought. -/
theorem placeF_enough (hs ws : List Int) (x : Nat) (size d : Int) : ∀ r, placeF (tryE hs ws x) (domsE d hs) size r = placeF (tryE hs ws x) (domsE d hs) (mostE hs ws size d : Nat) r
  | 0 => rfl
  | r + 1 => by
    have ih := placeF_enough hs ws x size d r
    have h1 := placeF_most (hs := hs) (ws := ws) (x := x) (size := size) (d := d) r
    have h2 : mostE hs ws size d ≤ size.toNat := by unfold mostE; omega
    have h3 := fun h hlt => put_full (hs := hs) (ws := ws) (x := x) (size := size) (d := d) (r := r) h hlt r
    rw [placeF, placeF, ← ih]
    by_cases hc : (placeF (tryE hs ws x) (domsE d hs) size r).length < mostE hs ws size d
    · rw [if_pos (by omega), if_pos (by omega)]
    · rw [if_neg (c := ((placeF (tryE hs ws x) (domsE d hs) size r).length : Int) < (mostE hs ws size d : Nat)) (by omega)]
      by_cases hs2 : ((placeF (tryE hs ws x) (domsE d hs) size r).length : Int) < size
      · rw [if_pos hs2]
        exact h3 (by omega) hs2
      · rw [if_neg hs2]
/-- The tries' end: where nothing can be found, or nothing more is sought. -/
theorem placeF_end (t : Nat → Option Nat) (doms : List Int) (size : Int) (r : Nat) (hr : r ≤ 64) (h : (size ≤ ((placeF t doms size r).length : Int)) ∨ ∀ k, r ≤ k → t k = none) : placeF t doms size 64 = placeF t doms size r := by
  rw [show 64 = r + (64 - r) by omega]
  refine placeF_stay t doms size r (fun k hk hlt => ?_) _
  rcases h with h | h
  · omega
  · rw [h k hk]; rfl
theorem hasD_iff (doms : List Int) (l : List Nat) (v : Nat) : hasD doms l v = true ↔ ∃ j, ∃ (h : j < l.length), doms.getD l[j] 0 = doms.getD v 0 := by
  unfold hasD
  rw [List.any_eq_true]
  constructor
  · rintro ⟨a, ha, he⟩
    obtain ⟨j, hj, rfl⟩ := List.getElem_of_mem ha
    exact ⟨j, hj, by simpa using he⟩
  · rintro ⟨j, hj, he⟩
    exact ⟨l[j], List.getElem_mem hj, by simpa using he⟩
end Go.Proofs.Ytngmcolbpdinmaa.crush
