/- What extents cover, and that those with gaps between are told by it. -/
import Derived.Test.YtijafehhhknamaaExtE
import Derived.Test.YtijafehhhknamaaExtF
namespace Go.Proofs.Ytijafehhhknamaa.ext
set_option linter.unusedVariables false

/-- A sector lies in an extent. -/
def inE (k : Int) (x : Wy) : Bool := decide (x.1 ≤ k ∧ k < x.1 + x.2)
theorem inE_iff (k : Int) (x : Wy) : inE k x = true ↔ x.1 ≤ k ∧ k < x.1 + x.2 := by unfold inE; simp
def cnt (xs : List Wy) (k : Int) : Nat := xs.countP (inE k)
def cov (xs : List Wy) (k : Int) : Prop := ∃ x ∈ xs, x.1 ≤ k ∧ k < x.1 + x.2
theorem cov_cnt (xs : List Wy) (k : Int) : cov xs k ↔ 0 < cnt xs k := by
  unfold cov cnt
  rw [List.countP_pos_iff]
  constructor
  · rintro ⟨x, hx, h⟩; exact ⟨x, hx, (inE_iff k x).2 h⟩
  · rintro ⟨x, hx, h⟩; exact ⟨x, hx, (inE_iff k x).1 h⟩
theorem cnt_append (xs ys : List Wy) (k : Int) : cnt (xs ++ ys) k = cnt xs k + cnt ys k := by unfold cnt; rw [List.countP_append]
theorem cnt_cons (x : Wy) (xs : List Wy) (k : Int) : cnt (x :: xs) k = cnt xs k + (if inE k x = true then 1 else 0) := by unfold cnt; rw [List.countP_cons]
theorem cov_nil (k : Int) : ¬ cov [] k := by rintro ⟨x, hx, _⟩; cases hx
theorem cov_cons (x : Wy) (xs : List Wy) (k : Int) : cov (x :: xs) k ↔ (x.1 ≤ k ∧ k < x.1 + x.2) ∨ cov xs k := by
  unfold cov
  simp
theorem cov_append (xs ys : List Wy) (k : Int) : cov (xs ++ ys) k ↔ cov xs k ∨ cov ys k := by
  rw [cov_cnt, cnt_append, cov_cnt, cov_cnt]; omega

/-- Each has a sector. -/
def Pos (xs : List Wy) : Prop := ∀ x ∈ xs, 1 ≤ x.2
/-- They rise, with a sector between two. -/
def Gap (xs : List Wy) : Prop := xs.Pairwise fun x y => x.1 + x.2 < y.1
/-- They rise, none over another. -/
def Flat (xs : List Wy) : Prop := xs.Pairwise fun x y => x.1 + x.2 ≤ y.1
theorem Gap.flat {xs : List Wy} (h : Gap xs) : Flat xs := h.imp (fun h => by omega)

theorem chain_gap : ∀ (p : Option Wy) (xs : List Wy), Pos xs → (chainE p xs = true ↔ Gap xs ∧ ∀ q, p = some q → ∀ x ∈ xs, q.1 + q.2 < x.1)
  | p, [], _ => by simp [chainE, Gap]
  | p, x :: r, hp => by
    have hr : Pos r := fun y hy => hp y (List.mem_cons_of_mem _ hy)
    have hx := hp x (List.mem_cons_self ..)
    rw [chainE, Bool.and_eq_true, chain_gap (some x) r hr]
    unfold Gap
    rw [List.pairwise_cons]
    cases p with
    | none => simp [linkE]; exact And.comm
    | some q =>
      simp only [linkE, decide_eq_true_eq, Option.some.injEq]
      constructor
      · rintro ⟨h1, h2, h3⟩
        refine ⟨⟨h3 x rfl, h2⟩, ?_⟩
        rintro q' rfl y hy
        rcases List.mem_cons.1 hy with rfl | hy
        · exact h1
        · have := h3 x rfl y hy; omega
      · rintro ⟨⟨h1, h2⟩, h3⟩
        refine ⟨h3 q rfl x (List.mem_cons_self ..), h2, ?_⟩
        rintro q' rfl
        exact h1
theorem lie_pos {t : Int} {xs : List Wy} (h : ∀ x ∈ xs, lieE t x = true) : Pos xs := fun x hx => ((lieE_iff t x).1 (h x hx)).1
theorem fitE_iff (t : Int) (xs : List Wy) : fitE t xs = true ↔ (0 ≤ t ∧ t ≤ 65536) ∧ (∀ x ∈ xs, lieE t x = true) ∧ Gap xs := by
  unfold fitE
  rw [Bool.and_eq_true, Bool.and_eq_true, List.all_eq_true]
  constructor
  · rintro ⟨h1, h2, h3⟩
    exact ⟨by simpa [rowE] using h1, h2, ((chain_gap none xs (lie_pos h2)).1 h3).1⟩
  · rintro ⟨h1, h2, h3⟩
    exact ⟨by simpa [rowE] using h1, h2, (chain_gap none xs (lie_pos h2)).2 ⟨h3, fun q h => by cases h⟩⟩

theorem gap_head {x : Wy} {r : List Wy} (h : Gap (x :: r)) : (∀ y ∈ r, x.1 + x.2 < y.1) ∧ Gap r := List.pairwise_cons.1 h
/-- They are told by what they cover. -/
theorem gap_unique : ∀ (a b : List Wy), Pos a → Pos b → Gap a → Gap b → (∀ k, cov a k ↔ cov b k) → a = b
  | [], [], _, _, _, _, _ => rfl
  | [], y :: s, _, hb, _, _, h => by
    have := hb y (List.mem_cons_self ..)
    exact absurd ((h y.1).2 ⟨y, List.mem_cons_self .., by omega, by omega⟩) (cov_nil _)
  | x :: r, [], ha, _, _, _, h => by
    have := ha x (List.mem_cons_self ..)
    exact absurd ((h x.1).1 ⟨x, List.mem_cons_self .., by omega, by omega⟩) (cov_nil _)
  | x :: r, y :: s, ha, hb, ga, gb, h => by
    have hx := ha x (List.mem_cons_self ..)
    have hy := hb y (List.mem_cons_self ..)
    obtain ⟨gx, gr⟩ := gap_head ga
    obtain ⟨gy, gs⟩ := gap_head gb
    have low : ∀ (x : Wy) (r : List Wy), 1 ≤ x.2 → (∀ z ∈ r, x.1 + x.2 < z.1) → ∀ k, cov (x :: r) k → x.1 ≤ k := by
      intro x r hx gx k hk
      rcases (cov_cons x r k).1 hk with h | ⟨z, hz, h1, h2⟩
      · exact h.1
      · have := gx z hz; omega
    have e1 : x.1 = y.1 := by
      have a1 := low y s hy gy x.1 ((h x.1).1 ((cov_cons x r _).2 (.inl ⟨by omega, by omega⟩)))
      have a2 := low x r hx gx y.1 ((h y.1).2 ((cov_cons y s _).2 (.inl ⟨by omega, by omega⟩)))
      omega
    have stop : ∀ (x : Wy) (r : List Wy), 1 ≤ x.2 → (∀ z ∈ r, x.1 + x.2 < z.1) → ¬ cov (x :: r) (x.1 + x.2) := by
      intro x r hx gx hk
      rcases (cov_cons x r _).1 hk with h | ⟨z, hz, h1, h2⟩
      · omega
      · have := gx z hz; omega
    have e2 : x.2 = y.2 := by
      rcases Int.lt_trichotomy x.2 y.2 with h1 | h1 | h1
      · exact absurd ((h (x.1 + x.2)).2 ((cov_cons y s _).2 (.inl ⟨by omega, by omega⟩))) (stop x r hx gx)
      · exact h1
      · exact absurd ((h (y.1 + y.2)).1 ((cov_cons x r _).2 (.inl ⟨by omega, by omega⟩))) (stop y s hy gy)
    have exy : x = y := Prod.ext e1 e2
    subst exy
    congr 1
    refine gap_unique r s (fun z hz => ha z (List.mem_cons_of_mem _ hz)) (fun z hz => hb z (List.mem_cons_of_mem _ hz)) gr gs fun k => ?_
    have hk := h k
    rw [cov_cons, cov_cons] at hk
    have out : ∀ (r : List Wy), (∀ z ∈ r, x.1 + x.2 < z.1) → cov r k → ¬ (x.1 ≤ k ∧ k < x.1 + x.2) := by
      rintro r gr ⟨z, hz, h1, h2⟩ ⟨h3, h4⟩
      have := gr z hz; omega
    constructor
    · intro hc
      rcases hk.1 (.inr hc) with h1 | h1
      · exact absurd h1 (out r gx hc)
      · exact h1
    · intro hc
      rcases hk.2 (.inr hc) with h1 | h1
      · exact absurd h1 (out s gy hc)
      · exact h1

/-- None over another. -/
theorem over_flat : ∀ (xs : List Wy), Pos xs → xs.Pairwise (fun x y => x.1 ≤ y.1) → overE xs = false → Flat xs
  | [], _, _, _ => List.Pairwise.nil
  | [x], _, _, _ => List.pairwise_singleton _ _
  | x :: y :: r, hp, hs, ho => by
    rw [overE, Bool.or_eq_false_iff] at ho
    obtain ⟨h1, h2⟩ := ho
    have hs' := List.pairwise_cons.1 hs
    have ih := over_flat (y :: r) (fun z hz => hp z (List.mem_cons_of_mem _ hz)) hs'.2 h2
    refine List.pairwise_cons.2 ⟨?_, ih⟩
    have h1' : x.1 + x.2 ≤ y.1 := by simpa using h1
    intro z hz
    rcases List.mem_cons.1 hz with rfl | hz
    · exact h1'
    · have := (List.pairwise_cons.1 hs'.2).1 z hz; omega
theorem over_two : ∀ (xs : List Wy), Pos xs → xs.Pairwise (fun x y => x.1 ≤ y.1) → overE xs = true → ∃ k, 2 ≤ cnt xs k
  | [], _, _, h => by simp [overE] at h
  | [x], _, _, h => by simp [overE] at h
  | x :: y :: r, hp, hs, ho => by
    rw [overE, Bool.or_eq_true] at ho
    have hs' := List.pairwise_cons.1 hs
    rcases ho with h | h
    · have h1 : y.1 < x.1 + x.2 := by simpa using h
      have h2 := hs'.1 y (List.mem_cons_self ..)
      have h3 := hp y (List.mem_cons_of_mem _ (List.mem_cons_self ..))
      refine ⟨y.1, ?_⟩
      rw [cnt_cons, cnt_cons, if_pos ((inE_iff _ _).2 ⟨by omega, by omega⟩), if_pos ((inE_iff _ _).2 ⟨by omega, by omega⟩)]
      omega
    · obtain ⟨k, hk⟩ := over_two (y :: r) (fun z hz => hp z (List.mem_cons_of_mem _ hz)) hs'.2 h
      exact ⟨k, by rw [cnt_cons]; omega⟩
theorem flat_cnt : ∀ (xs : List Wy), Pos xs → Flat xs → ∀ k, cnt xs k ≤ 1
  | [], _, _, k => by simp [cnt]
  | x :: r, hp, hf, k => by
    have hf' := List.pairwise_cons.1 hf
    have ih := flat_cnt r (fun z hz => hp z (List.mem_cons_of_mem _ hz)) hf'.2 k
    rw [cnt_cons]
    by_cases hi : inE k x = true
    · rw [if_pos hi]
      have : cnt r k = 0 := by
        rcases Nat.eq_zero_or_pos (cnt r k) with h | h
        · exact h
        · obtain ⟨z, hz, h1, h2⟩ := (cov_cnt r k).2 h
          have := hf'.1 z hz
          have := (inE_iff k x).1 hi
          omega
      omega
    · rw [if_neg hi]; omega

theorem stepJ_concat (l : List Wy) (y x : Wy) : stepJ (l ++ [y]) x = if y.1 + y.2 = x.1 then l ++ [(y.1, y.2 + x.2)] else l ++ [y] ++ [x] := by
  unfold stepJ
  rw [List.getLast?_concat]
  simp
/-- What is joined. -/
structure Joined (xs J : List Wy) : Prop where
  pos : Pos J
  gap : Gap J
  cov : ∀ k, cov J k ↔ cov xs k
  end_ : ∀ B : Int, (∀ x ∈ xs, x.1 + x.2 ≤ B) → ∀ y ∈ J, y.1 + y.2 ≤ B
theorem Joined.step {xs J : List Wy} (h : Joined xs J) (x : Wy) (hx : 1 ≤ x.2) (hb : ∀ y ∈ xs, y.1 + y.2 ≤ x.1) : Joined (xs ++ [x]) (stepJ J x) := by
  have hJ := h.end_ x.1 hb
  rcases List.eq_nil_or_concat J with rfl | ⟨l, y, rfl⟩
  · rw [stepJ_nil]
    refine ⟨fun z hz => by rw [List.mem_singleton.1 hz]; exact hx, List.pairwise_singleton _ _, fun k => ?_, fun B hB z hz => ?_⟩
    · rw [cov_append, ← h.cov k]
      exact ⟨.inr, fun h => h.resolve_left (cov_nil k)⟩
    · rw [List.mem_singleton.1 hz]; exact hB x (List.mem_append_right _ (List.mem_singleton.2 rfl))
  · rw [List.concat_eq_append] at hJ h ⊢
    rw [stepJ_concat]
    have hy := hJ y (List.mem_append_right _ (List.mem_singleton.2 rfl))
    have py := h.pos y (List.mem_append_right _ (List.mem_singleton.2 rfl))
    have pl : Pos l := fun z hz => h.pos z (List.mem_append_left _ hz)
    obtain ⟨gl, -, gy⟩ := List.pairwise_append.1 h.gap
    have gy' : ∀ z ∈ l, z.1 + z.2 < y.1 := fun z hz => gy z hz y (List.mem_singleton.2 rfl)
    have el : ∀ B : Int, (∀ x ∈ xs, x.1 + x.2 ≤ B) → ∀ z ∈ l, z.1 + z.2 ≤ B := fun B hB z hz => h.end_ B hB z (List.mem_append_left _ hz)
    by_cases hc : y.1 + y.2 = x.1
    · rw [if_pos hc]
      refine ⟨?_, ?_, fun k => ?_, ?_⟩
      · intro z hz
        rcases List.mem_append.1 hz with hz | hz
        · exact pl z hz
        · rw [List.mem_singleton.1 hz]; simp only; omega
      · refine List.pairwise_append.2 ⟨gl, List.pairwise_singleton _ _, ?_⟩
        intro z hz u hu
        rw [List.mem_singleton.1 hu]
        exact gy' z hz
      · rw [cov_append xs, ← h.cov k, cov_append l, cov_append l, cov_cons, cov_cons, cov_cons]
        have n := cov_nil k
        constructor
        · rintro (h1 | h1 | h1)
          · exact .inl (.inl h1)
          · simp only at h1
            by_cases hk : k < x.1
            · exact .inl (.inr (.inl ⟨h1.1, by omega⟩))
            · exact .inr (.inl ⟨by omega, by omega⟩)
          · exact absurd h1 n
        · rintro ((h1 | h1 | h1) | h1 | h1)
          · exact .inl h1
          · exact .inr (.inl ⟨h1.1, by simp only; omega⟩)
          · exact absurd h1 n
          · exact .inr (.inl ⟨by simp only; omega, by simp only; omega⟩)
          · exact absurd h1 n
      · intro B hB z hz
        rcases List.mem_append.1 hz with hz | hz
        · exact el B (fun x hx => hB x (List.mem_append_left _ hx)) z hz
        · rw [List.mem_singleton.1 hz]
          have := hB x (List.mem_append_right _ (List.mem_singleton.2 rfl))
          simp only; omega
    · rw [if_neg hc]
      refine ⟨?_, ?_, fun k => ?_, ?_⟩
      · intro z hz
        rcases List.mem_append.1 hz with hz | hz
        · exact h.pos z hz
        · rw [List.mem_singleton.1 hz]; exact hx
      · refine List.pairwise_append.2 ⟨h.gap, List.pairwise_singleton _ _, ?_⟩
        intro z hz u hu
        rw [List.mem_singleton.1 hu]
        rcases List.mem_append.1 hz with hz | hz
        · have := gy' z hz; omega
        · rw [List.mem_singleton.1 hz]; omega
      · rw [cov_append xs, ← h.cov k, cov_append]
      · intro B hB z hz
        rcases List.mem_append.1 hz with hz | hz
        · exact h.end_ B (fun x hx => hB x (List.mem_append_left _ hx)) z hz
        · rw [List.mem_singleton.1 hz]
          exact hB x (List.mem_append_right _ (List.mem_singleton.2 rfl))
theorem join_joined (xs : List Wy) (hp : Pos xs) (hf : Flat xs) : Joined xs (joinE xs) := by
  suffices h : ∀ (n : Nat), n ≤ xs.length → Joined (xs.take n) (joinE (xs.take n)) by
    have := h xs.length (Nat.le_refl _)
    rwa [List.take_length] at this
  intro n
  induction n with
  | zero => 
    intro _
    rw [List.take_zero]
    exact ⟨fun x hx => (by cases hx), List.Pairwise.nil, fun k => Iff.rfl, fun B hB y hy => (by cases hy)⟩
  | succ n ih =>
    intro hn
    have hi : n < xs.length := by omega
    rw [List.take_succ_eq_append_getElem hi, joinE_snoc]
    refine (ih (by omega)).step _ (hp _ (List.getElem_mem hi)) ?_
    intro y hy
    obtain ⟨j, hj, rfl⟩ := List.getElem_of_mem hy
    have hj' : j < n := by rw [List.length_take] at hj; omega
    rw [List.getElem_take]
    exact List.pairwise_iff_getElem.1 hf j n (by omega) hi hj'

theorem lie_of_cov {t : Int} {J : List Wy} (hp : Pos J) (h : ∀ k, cov J k → 0 ≤ k ∧ k < t) : ∀ y ∈ J, lieE t y = true := by
  intro y hy
  have h1 := hp y hy
  have h2 := h y.1 ⟨y, hy, by omega, by omega⟩
  have h3 := h (y.1 + y.2 - 1) ⟨y, hy, by omega, by omega⟩
  exact (lieE_iff t y).2 ⟨h1, h2.1, by omega⟩
theorem cov_lie {t : Int} {J : List Wy} (h : ∀ y ∈ J, lieE t y = true) : ∀ k, cov J k → 0 ≤ k ∧ k < t := by
  rintro k ⟨y, hy, h1, h2⟩
  have := (lieE_iff t y).1 (h y hy)
  omega
theorem gap_len : ∀ (xs : List Wy) (t p : Int), Pos xs → Gap xs → (∀ x ∈ xs, p ≤ x.1 ∧ x.1 + x.2 ≤ t) → p ≤ t → (xs.length : Int) ≤ t - p
  | [], t, p, _, _, _, h => by simp; omega
  | x :: r, t, p, hp, hg, hb, h => by
    have hx := hp x (List.mem_cons_self ..)
    have hb' := hb x (List.mem_cons_self ..)
    obtain ⟨gx, gr⟩ := gap_head hg
    have ih := gap_len r t (x.1 + x.2) (fun z hz => hp z (List.mem_cons_of_mem _ hz)) gr (fun z hz => ⟨by have := gx z hz; omega, (hb z (List.mem_cons_of_mem _ hz)).2⟩) hb'.2
    simp only [List.length_cons]
    omega

/-- What lies between. -/
theorem oth_gap (t : Int) : ∀ (p : Int) (xs : List Wy), Pos xs → Gap xs → (∀ x ∈ xs, p ≤ x.1 ∧ x.1 + x.2 ≤ t) →
    Pos (othR t p xs) ∧ Gap (othR t p xs) ∧ (∀ y ∈ othR t p xs, p ≤ y.1) ∧ ∀ k, cov (othR t p xs) k ↔ (p ≤ k ∧ k < t) ∧ ¬ cov xs k
  | p, [], _, _, _ => by
    rw [othR]
    by_cases h : p < t
    · rw [if_pos h]
      refine ⟨fun z hz => by rw [List.mem_singleton.1 hz]; simp only; omega, List.pairwise_singleton _ _, fun z hz => by rw [List.mem_singleton.1 hz]; exact Int.le_refl _, fun k => ?_⟩
      rw [cov_cons]
      have n := cov_nil k
      constructor
      · rintro (h1 | h1)
        · simp only at h1; exact ⟨⟨h1.1, by omega⟩, n⟩
        · exact absurd h1 n
      · rintro ⟨h1, _⟩
        exact .inl ⟨h1.1, by simp only; omega⟩
    · rw [if_neg h]
      refine ⟨fun z hz => (by cases hz), List.Pairwise.nil, fun z hz => (by cases hz), fun k => ?_⟩
      have n := cov_nil k
      exact ⟨fun h1 => absurd h1 n, fun h1 => by omega⟩
  | p, x :: r, hp, hg, hb => by
    have hx := hp x (List.mem_cons_self ..)
    have hb' := hb x (List.mem_cons_self ..)
    obtain ⟨gx, gr⟩ := gap_head hg
    obtain ⟨i1, i2, i3, i4⟩ := oth_gap t (x.1 + x.2) r (fun z hz => hp z (List.mem_cons_of_mem _ hz)) gr (fun z hz => ⟨by have := gx z hz; omega, (hb z (List.mem_cons_of_mem _ hz)).2⟩)
    have out : ∀ k, cov r k → x.1 + x.2 < k := by
      rintro k ⟨z, hz, h1, h2⟩
      have := gx z hz; omega
    rw [othR]
    by_cases h : p < x.1
    · rw [if_pos h]
      refine ⟨?_, ?_, ?_, fun k => ?_⟩
      · intro z hz
        rcases List.mem_append.1 hz with hz | hz
        · rw [List.mem_singleton.1 hz]; simp only; omega
        · exact i1 z hz
      · refine List.pairwise_append.2 ⟨List.pairwise_singleton _ _, i2, ?_⟩
        intro z hz u hu
        rw [List.mem_singleton.1 hz]
        have := i3 u hu
        simp only; omega
      · intro z hz
        rcases List.mem_append.1 hz with hz | hz
        · rw [List.mem_singleton.1 hz]; exact Int.le_refl _
        · have := i3 z hz; omega
      · rw [cov_append, i4 k, cov_cons, cov_cons]
        have n := cov_nil k
        constructor
        · rintro ((h1 | h1) | ⟨h1, h2⟩)
          · simp only at h1
            refine ⟨⟨h1.1, by omega⟩, ?_⟩
            rintro (h3 | h3)
            · omega
            · have := out k h3; omega
          · exact absurd h1 n
          · refine ⟨⟨by omega, h1.2⟩, ?_⟩
            rintro (h3 | h3)
            · omega
            · exact h2 h3
        · rintro ⟨h1, h2⟩
          by_cases hk : k < x.1
          · exact .inl (.inl ⟨h1.1, by simp only; omega⟩)
          · refine .inr ⟨⟨?_, h1.2⟩, fun h3 => h2 (.inr h3)⟩
            by_cases hk2 : x.1 + x.2 ≤ k
            · exact hk2
            · exact absurd (.inl ⟨by omega, by omega⟩) h2
    · rw [if_neg h, List.nil_append]
      have e : p = x.1 := by omega
      refine ⟨i1, i2, fun z hz => by have := i3 z hz; omega, fun k => ?_⟩
      rw [i4 k, cov_cons]
      constructor
      · rintro ⟨h1, h2⟩
        refine ⟨⟨by omega, h1.2⟩, ?_⟩
        rintro (h3 | h3)
        · omega
        · exact h2 h3
      · rintro ⟨h1, h2⟩
        refine ⟨⟨?_, h1.2⟩, fun h3 => h2 (.inr h3)⟩
        by_cases hk2 : x.1 + x.2 ≤ k
        · exact hk2
        · exact absurd (.inl ⟨by omega, by omega⟩) h2

end Go.Proofs.Ytijafehhhknamaa.ext
