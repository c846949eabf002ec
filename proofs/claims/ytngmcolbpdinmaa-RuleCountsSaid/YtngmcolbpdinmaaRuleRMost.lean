/- The document's Most and Valid. -/
import Derived.Test.YtngmcolbpdinmaaRows
import Derived.Test.YtngmcolbpdinmaaRuleClash
import Derived.Test.YtngmcolbpdinmaaRuleRHosts
import Derived.Test.YtngmcolbpdinmaaRuleValidP
namespace Go.Proofs.Ytngmcolbpdinmaa.crush
open Go.RowKit
open Go.Proofs.Ytngmcolbpdinmaa.kit Go.Proofs.Ytngmcolbpdinmaa.own
set_option linter.unusedVariables false

/-- One of each domain, of the first n nodes. -/
def firstL (hs ws : List Int) (d : Int) : Nat → List Nat
  | 0 => []
  | n + 1 => if 0 < wtAt ws n ∧ hasD (domsE d hs) (firstL hs ws d n) n = false then firstL hs ws d n ++ [n] else firstL hs ws d n
theorem firstL_len (hs ws : List Int) (d : Int) : ∀ n, (firstL hs ws d n).length ≤ n
  | 0 => by simp [firstL]
  | n + 1 => by
    have := firstL_len hs ws d n
    rw [firstL]
    split
    · simp; omega
    · omega
theorem firstL_lt (hs ws : List Int) (d : Int) : ∀ n, ∀ a ∈ firstL hs ws d n, a < n
  | 0, a, h => by simp [firstL] at h
  | n + 1, a, h => by
    have ih := firstL_lt hs ws d n
    rw [firstL] at h
    split at h
    · rcases List.mem_append.1 h with h | h
      · have := ih a h; omega
      · rw [List.mem_singleton.1 h]; omega
    · have := ih a h; omega
theorem firstL_dom (hs ws : List Int) (d : Int) : ∀ n, ((firstL hs ws d n).map fun a => (domsE d hs).getD a 0).Nodup ∧ ∀ z, z ∈ (firstL hs ws d n).map (fun a => (domsE d hs).getD a 0) ↔ z ∈ withD hs ws d n
  | 0 => by simp [firstL, withD]
  | n + 1 => by
    obtain ⟨h1, h2⟩ := firstL_dom hs ws d n
    rw [firstL, withD]
    by_cases hw : 0 < wtAt ws n
    · rw [if_pos hw]
      cases hh : hasD (domsE d hs) (firstL hs ws d n) n with
      | true =>
        rw [if_neg (by simp)]
        refine ⟨h1, fun z => ?_⟩
        rw [List.mem_append, ← h2 z, List.mem_singleton]
        constructor
        · exact .inl
        · rintro (h | h)
          · exact h
          · obtain ⟨j, hj, he⟩ := (hasD_iff _ _ _).1 hh
            rw [h, ← he]
            exact List.mem_map.2 ⟨_, List.getElem_mem hj, rfl⟩
      | false =>
        rw [if_pos ⟨hw, rfl⟩]
        have hno : ∀ a ∈ firstL hs ws d n, (domsE d hs).getD a 0 ≠ (domsE d hs).getD n 0 := fun a ha he => by
          obtain ⟨j, hj, rfl⟩ := List.getElem_of_mem ha
          have := (hasD_iff (domsE d hs) (firstL hs ws d n) n).2 ⟨j, hj, he⟩
          rw [hh] at this; cases this
        refine ⟨?_, fun z => ?_⟩
        · rw [List.map_append, List.nodup_append]
          refine ⟨h1, by simp, ?_⟩
          intro a ha b hb hab
          simp at hb
          subst hb
          obtain ⟨c, hc, rfl⟩ := List.mem_map.1 ha
          exact hno c hc hab
        · rw [List.map_append, List.mem_append, List.mem_append, h2 z]
          simp
    · rw [if_neg hw, if_neg (fun h => hw h.1)]
      exact ⟨h1, h2⟩
theorem firstL_most (hs ws : List Int) (size d : Int) : mostE hs ws size d = min (firstL hs ws d hs.length).length (max size 0).toNat := by
  obtain ⟨h1, h2⟩ := firstL_dom hs ws d hs.length
  have h3 := nodup_len_eq h1 (onceL_nodup (withD hs ws d hs.length)) (fun z => by rw [h2 z, onceL_mem])
  rw [List.length_map] at h3
  unfold mostE
  rw [← h3]
  omega

end Go.Proofs.Ytngmcolbpdinmaa.crush
