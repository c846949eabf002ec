/- What stays apart: the mathematics of FlightApart. -/
import Derived.Test.YtalnmbfmfeaohaaGreatRows
import Derived.Test.YtalnmbfmfeaohaaGreatFlightGood
import Derived.Test.YtalnmbfmfeaohaaGreatFlightIso
namespace Go.Proofs.YtalnmbfmfeaohaaGreat.flight
open Go.RowKit
open Go.Proofs.YtalnmbfmfeaohaaGreat.kit Go.Proofs.YtalnmbfmfeaohaaGreat.own
set_option linter.unusedVariables false

theorem ltW_irrefl (x : Wy) : ¬ ltW x x = true := by unfold ltW; simp
/-- Two rising rows of ways with the same ways are the same. -/
theorem rise_ext : ∀ (l m : List Wy), l.Pairwise (fun x y => ltW x y = true) → m.Pairwise (fun x y => ltW x y = true) → (∀ z, z ∈ l ↔ z ∈ m) → l = m
  | [], [], _, _, _ => rfl
  | [], y :: r, _, _, h => by have := (h y).2 (by simp); simp at this
  | x :: r, [], _, _, h => by have := (h x).1 (by simp); simp at this
  | x :: r, y :: s, hl, hm, h => by
    obtain ⟨h1, h2⟩ := List.pairwise_cons.1 hl
    obtain ⟨h3, h4⟩ := List.pairwise_cons.1 hm
    have hxy : x = y := by
      rcases List.mem_cons.1 ((h x).1 (by simp)) with e | e
      · exact e
      · rcases List.mem_cons.1 ((h y).2 (by simp)) with e2 | e2
        · exact e2.symm
        · exact absurd (ltW_trans (h1 y e2) (h3 x e)) (ltW_irrefl x)
    subst hxy
    have ih := rise_ext r s h2 h4 (fun z => by
      constructor
      · intro hz
        rcases List.mem_cons.1 ((h z).1 (List.mem_cons_of_mem _ hz)) with e | e
        · subst e; exact absurd (h1 z hz) (ltW_irrefl z)
        · exact e
      · intro hz
        rcases List.mem_cons.1 ((h z).2 (List.mem_cons_of_mem _ hz)) with e | e
        · subst e; exact absurd (h3 z hz) (ltW_irrefl z)
        · exact e)
    rw [ih]
theorem setW_rise (ys : List Wy) : (setW ys).Pairwise (fun x y => ltW x y = true) := compW_strict _ (sortW_le ys)

theorem good_iso {f : Flt} {k : Nat} (h : Good f k) (a b : List Int) (hoa : ∀ z ∈ a, I64 z) (hob : ∀ z ∈ b, I64 z) : Good (isoE f a b) (k + 2 * (a.length * b.length)) := by
  have h1 := h.sub (List.filter_sublist (p := fun x => !inWays (betweenL a b) x) (l := f.list)) (List.Sublist.refl _)
  have hm : ∀ y ∈ (isoE f a b).cut, y ∈ f.cut ∨ y ∈ betweenL a b := fun y hy => List.mem_append.1 ((setW_mem _ y).1 hy)
  refine ⟨h1.n0, h1.n1, h1.len, h1.up, h1.rise, fun y hy => ?_, setW_rise _, h1.ok, fun y hy => ?_, ?_⟩
  · rcases hm y hy with h2 | h2
    · exact h.ne y h2
    · exact ((betweenL_mem a b y).1 h2).1
  · rcases hm y hy with h2 | h2
    · exact h.way y h2
    · obtain ⟨-, h3⟩ := (betweenL_mem a b y).1 h2
      rcases h3 with ⟨h4, h5⟩ | ⟨h4, h5⟩
      · exact ⟨hoa _ h4, hob _ h5⟩
      · exact ⟨hob _ h4, hoa _ h5⟩
  · have h2 := setW_len (f.cut ++ betweenL a b)
    have h3 := betweenL_len a b
    rw [List.length_append] at h2
    have := h.cl
    show (setW _).length ≤ _
    omega
theorem iso_cut {f : Flt} {a b : List Int} {p q : Int} (hp : p ∈ a) (hq : q ∈ b) (hne : p ≠ q) (t : ByteArray) : (putE (isoE f a b) p q t).2.2 = 40 ∧ (putE (isoE f a b) q p t).2.2 = 40 := by
  have h1 : (p, q) ∈ (isoE f a b).cut := (setW_mem _ _).2 (List.mem_append.2 (.inr ((betweenL_mem a b _).2 ⟨hne, .inl ⟨hp, hq⟩⟩)))
  have h2 : (q, p) ∈ (isoE f a b).cut := (setW_mem _ _).2 (List.mem_append.2 (.inr ((betweenL_mem a b _).2 ⟨fun e => hne e.symm, .inr ⟨hq, hp⟩⟩)))
  constructor
  · unfold putE
    have : refE (isoE f a b) (p, q) = 40 := by unfold refE; rw [if_pos h1]
    rw [this]; rfl
  · unfold putE
    have : refE (isoE f a b) (q, p) = 40 := by unfold refE; rw [if_pos h2]
    rw [this]; rfl
/-- Cut once more: nothing is changed. -/
theorem cut_twice (f : Flt) (i k : Int) : cutE (cutE f i k) i k = cutE f i k := by
  unfold cutE
  simp only [Flt.mk.injEq, true_and]
  refine ⟨?_, ?_⟩
  · rw [List.filter_filter]
    congr 1
    funext x
    simp
  · refine rise_ext _ _ (setW_rise _) (setW_rise _) (fun z => ?_)
    rw [setW_mem, List.mem_append, setW_mem, List.mem_append]
    constructor
    · rintro (h | h)
      · exact h
      · exact .inr h
    · exact .inl
/-- A way cut and joined again. -/
theorem cut_join {f : Flt} {n : Nat} (h : Good f n) (i k : Int) (hno : ¬ (i, k) ∈ f.cut) (hne : i ≠ k) : (i, k) ∈ (cutE f i k).cut ∧ (joinE (cutE f i k) (i, k)).cut = f.cut := by
  refine ⟨(setW_mem _ _).2 (List.mem_append.2 (.inr ((there1_mem i k _).2 ⟨rfl, hne⟩))), ?_⟩
  show (setW (f.cut ++ thereL [i] [k])).filter _ = _
  refine rise_ext _ _ ((setW_rise _).filter _) h.wr (fun z => ?_)
  rw [List.mem_filter, setW_mem, List.mem_append, there1_mem]
  constructor
  · rintro ⟨h1 | h1, h2⟩
    · exact h1
    · rw [h1.1] at h2; simp at h2
  · intro hz
    refine ⟨.inl hz, ?_⟩
    have : z ≠ (i, k) := fun e => hno (by rw [← e]; exact hz)
    simp [this]

end Go.Proofs.YtalnmbfmfeaohaaGreat.flight
