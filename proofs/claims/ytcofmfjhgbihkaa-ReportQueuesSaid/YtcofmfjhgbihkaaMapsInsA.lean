/- slices.Insert of a ban, wherever. -/
import Derived.Test.YtcofmfjhgbihkaaRows
import Derived.Test.YtcofmfjhgbihkaaMapsInsG
namespace Go.Proofs.Ytcofmfjhgbihkaa.crush
open Go.RowKit
open Go.Proofs.Ytcofmfjhgbihkaa.kit Go.Proofs.Ytcofmfjhgbihkaa.own
set_option linter.unusedVariables false
set_option linter.unusedSimpArgs false

theorem kept_set {B : Nat} {e : TypeId} {w w' : World} (h : Kept B e w w') {g : Nat} {cur : Array Value} (hg : w.heap[g]? = some (.cells cur e (0, 0))) (hB : B ≤ g) (o : Nat) (vs : List Value) : Kept B e w (w'.setCells g o vs) := by
  have h2 := Below.setCells h.toBelow hB o vs
  refine ⟨h2.os, h2.tape, h2.output, h2.size, fun k hk => h2.block k hk, fun k hk hne => ?_⟩
  have hkg : k ≠ g := fun e => by subst e; exact hne _ _ hg
  rw [heap_setCells_other g _ _ _ _ hkg]
  exact h.other k hk hne

set_option maxHeartbeats 4000000 in
theorem ins_any (v : Value) (xs : List BanV) (y : BanV) (i : Nat) (B : Nat → Prop) (w : World) (h : OwnP bc 2 136 w B v xs) (hB : In B w) (N T : Nat) (hx : w.heap[N]? = some (.cells (bc y).toArray T (0, 0))) (hN : v.ownBlock ≠ some N) (hi : i ≤ xs.length) (hl : xs.length ≤ 64) :
    Calls Try.prog 141 #[v, .int .i64 i, .slice (some ⟨N, 0, none⟩) 1 1] w (InsO B (xs.take i ++ y :: xs.drop i) w) := by
  have hNl : N < w.heap.size := (Array.getElem?_eq_some_iff.1 hx).1
  rcases Nat.lt_or_ge i xs.length with h1 | h1
  · have hfar := h.2
    rcases h.1.at with ⟨_, e2⟩ | ⟨g, cap, rfl, hg, hat⟩
    · rw [e2] at h1; exact absurd h1 (Nat.not_lt_zero _)
    · obtain ⟨cur, hgc, -⟩ := hat.ex
      have hne : N ≠ g := fun e => hN (by subst e; rfl)
      rcases Nat.lt_or_ge cap (xs.length + 1) with h2 | h2
      · refine (insGrow_any xs y g cap i w hat h1 h2 hl N T 1 hx).mono ?_
        rintro e w' ⟨G, rfl, ho, hb⟩
        have hlen : (xs.take i ++ y :: xs.drop i).length = xs.length + 1 := by simp; omega
        refine ⟨_, rfl, ⟨by have := ho.own bc_len (Nat.zero_le _); rwa [hlen] at this, fun b hb2 hb3 => ?_⟩, Kept.of_below (Nat.zero_le _) hb, Far.of hb hB⟩
        have e1 : w.heap.size = b := by simpa [Value.ownBlock] using hb2
        have := hB b hb3
        omega
      · refine (insMid_any xs y g cap i w hat h1 h2 hl N T 1 hx hne).mono ?_
        rintro e w' ⟨rfl, ho, hw⟩
        have hlen : (xs.take i ++ y :: xs.drop i).length = xs.length + 1 := by simp; omega
        refine ⟨_, rfl, ⟨by have := ho.own bc_len (Nat.zero_le _); rwa [hlen] at this, fun b hb2 => hfar b (by simpa [Value.ownBlock] using hb2)⟩, ?_, ?_⟩
        · rw [hw]
          exact kept_set (kept_set (Kept.refl 0 _ w).drew hgc (Nat.zero_le _) _ _) hgc (Nat.zero_le _) _ _
        · rw [hw]
          exact ((Far.refl B w).drew.setCells (hfar g rfl) _ _).setCells (hfar g rfl) _ _
  · obtain rfl : i = xs.length := by omega
    have hs : Sl bc 2 w (.slice (some ⟨N, 0, none⟩) 1 1) [y] := by
      refine ⟨by simp, _, _, rfl, fun h => (by cases h), fun _ => ⟨N, 0, rfl, hNl, fun j hj t v hv => ?_⟩⟩
      have hj0 : j = 0 := by simp at hj; omega
      subst hj0
      simp only [World.cell?, hx]
      simpa using hv
    have := insEnd_any v xs y B w h hB _ hs hl
    rw [List.take_of_length_le (Nat.le_refl _), List.drop_of_length_le (Nat.le_refl _)]
    exact this
end Go.Proofs.Ytcofmfjhgbihkaa.crush
