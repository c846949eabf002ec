/- The order of keys is the order of rows: lists of numbers. -/
import Derived.Test.YtgjfijognplfpaaRows
import Derived.Test.YtgjfijognplfpaaCodeOrdR
import Derived.Test.YtgjfijognplfpaaCodeOrd3
namespace Go.Proofs.Ytgjfijognplfpaa.code
open Go.RowKit
open Go.Proofs.Ytgjfijognplfpaa.kit Go.Proofs.Ytgjfijognplfpaa.cm
set_option linter.unusedVariables false

/-- The order of lists of numbers. -/
def cmpN : List Nat → List Nat → Int
  | [], [] => 0
  | [], _ :: _ => -1
  | _ :: _, [] => 1
  | x :: a, y :: b => if x < y then -1 else if y < x then 1 else cmpN a b

theorem cmpN_high : ∀ (k a b : Nat) (X Y : List Nat), a < 256 ^ k → b < 256 ^ k → cmpN (highF k a ++ X) (highF k b ++ Y) = if a < b then -1 else if b < a then 1 else cmpN X Y
  | 0, a, b, X, Y, ha, hb => by
    simp at ha hb
    subst ha; subst hb
    simp [highF]
  | k + 1, a, b, X, Y, ha, hb => by
    rw [Nat.pow_succ] at ha hb
    rw [highF, highF, List.append_assoc, List.append_assoc, cmpN_high k (a / 256) (b / 256) _ _ (Nat.div_lt_of_lt_mul (by rw [Nat.mul_comm]; exact ha)) (Nat.div_lt_of_lt_mul (by rw [Nat.mul_comm]; exact hb))]
    simp only [List.cons_append, List.nil_append, cmpN]
    by_cases h1 : a / 256 < b / 256
    · rw [if_pos h1, if_pos (by omega)]
    · rw [if_neg h1]
      by_cases h2 : b / 256 < a / 256
      · rw [if_pos h2, if_neg (by omega), if_pos (by omega)]
      · rw [if_neg h2]
        by_cases h3 : a % 256 < b % 256
        · rw [if_pos h3, if_pos (by omega)]
        · rw [if_neg h3]
          by_cases h4 : b % 256 < a % 256
          · rw [if_pos h4, if_neg (by omega), if_pos (by omega)]
          · rw [if_neg h4, if_neg (by omega), if_neg (by omega)]

theorem cmpN_esc : ∀ (s t X Y : List Nat), cmpN (escN s ++ (0 :: 1 :: X)) (escN t ++ (0 :: 1 :: Y)) = if cmpN s t = 0 then cmpN X Y else cmpN s t
  | [], [], X, Y => by simp [escN, cmpN]
  | [], c :: t, X, Y => by
    by_cases hc : c = 0
    · subst hc; simp [escN, cmpN]
    · simp [escN, cmpN, hc, Nat.pos_of_ne_zero hc]
  | c :: s, [], X, Y => by
    by_cases hc : c = 0
    · subst hc; simp [escN, cmpN]
    · simp [escN, cmpN, hc, Nat.pos_of_ne_zero hc]
  | c :: s, d :: t, X, Y => by
    have ih := cmpN_esc s t X Y
    by_cases hc : c = 0
    · subst hc
      by_cases hd : d = 0
      · subst hd
        simp only [escN, if_true, List.cons_append, List.nil_append, cmpN, Nat.lt_irrefl, if_false]
        exact ih
      · simp [escN, cmpN, hd, Nat.pos_of_ne_zero hd]
    · by_cases hd : d = 0
      · subst hd
        simp [escN, cmpN, hc, Nat.pos_of_ne_zero hc]
      · simp only [escN, hc, hd, if_false, List.cons_append, List.nil_append, cmpN]
        by_cases h1 : c < d
        · simp [h1]
        · by_cases h2 : d < c
          · simp [h1, h2]
          · simp only [h1, h2, if_false]; exact ih

theorem compare_cmpN : ∀ (a b : List UInt8), Lib.compareBytes a b = cmpN (a.map fun x => x.toNat) (b.map fun x => x.toNat)
  | [], [] => by simp [Lib.compareBytes, cmpN]
  | [], _ :: _ => by simp [Lib.compareBytes, cmpN]
  | _ :: _, [] => by simp [Lib.compareBytes, cmpN]
  | x :: a, y :: b => by
    have ih := compare_cmpN a b
    unfold Lib.compareBytes
    simp only [List.map_cons, cmpN, UInt8.lt_iff_toNat_lt, ih]

theorem part_cmp (f g : Fld) (hf : f.fit = true) (hg : g.fit = true) (hof : f.Ok) (hog : g.Ok) (hk : f.kind = g.kind) (X Y : List Nat) :
    cmpN (f.part ++ X) (g.part ++ Y) = if ordF f g = 0 then cmpN X Y else ordF f g := by
  have hn1 : f.kind = 1 ∨ f.kind = 3 → 0 ≤ f.num := by
    intro h; unfold Fld.fit at hf
    rcases h with h | h <;> simp [h] at hf <;> omega
  have hn2 : g.kind = 1 ∨ g.kind = 3 → 0 ≤ g.num := by
    intro h; unfold Fld.fit at hg
    rcases h with h | h <;> simp [h] at hg <;> omega
  have hf' := fit_parts hf
  have hg' := fit_parts hg
  have hkf : f.kind = 1 ∨ f.kind = 2 ∨ f.kind = 3 ∨ f.kind = 4 ∨ f.kind = 5 := by
    unfold Fld.fit at hf
    by_cases h1 : f.kind = 1
    · exact .inl h1
    by_cases h2 : f.kind = 2
    · exact .inr (.inl h2)
    by_cases h3 : f.kind = 3
    · exact .inr (.inr (.inl h3))
    by_cases h4 : f.kind = 4
    · exact .inr (.inr (.inr (.inl h4)))
    by_cases h5 : f.kind = 5
    · exact .inr (.inr (.inr (.inr h5)))
    · simp [h1, h2, h3, h4, h5] at hf
  obtain ⟨k, n, t, b⟩ := f
  obtain ⟨k2, n2, t2, b2⟩ := g
  obtain ⟨_, _, n0, n1, _⟩ := hof
  obtain ⟨_, _, m0, m1, _⟩ := hog
  simp only at hk hn1 hn2 hf' hg' hkf n0 n1 m0 m1
  subst hk
  clear hf hg
  have hnum : ∀ a c : Nat, a < 18446744073709551616 → c < 18446744073709551616 → ((a : Int) < c ↔ n < n2) → ((c : Int) < a ↔ n2 < n) → t = t2 → b = b2 →
      cmpN (highB a ++ X) (highB c ++ Y) = if ordF ⟨k, n, t, b⟩ ⟨k, n2, t2, b2⟩ = 0 then cmpN X Y else ordF ⟨k, n, t, b⟩ ⟨k, n2, t2, b2⟩ := by
    intro a c ha hc h1 h2 ht hb
    subst ht; subst hb
    have ho : ordF ⟨k, n, t, b⟩ ⟨k, n2, t, b⟩ = cmp3 n n2 := by
      simp [ordF, firstOf, cmp3, compare_less, bytesLess_irrefl]
      intro g1; exact g1.symm
    rw [ho]
    unfold highB
    rw [cmpN_high 8 a c X Y (by omega) (by omega)]
    unfold cmp3
    by_cases g1 : n < n2
    · rw [if_pos g1, if_pos (by omega)]; simp
    · by_cases g2 : n2 < n
      · rw [if_neg g1, if_pos g2, if_neg (by omega), if_pos (by omega)]; simp
      · rw [if_neg g1, if_neg g2, if_neg (by omega), if_neg (by omega)]; simp
  rcases hkf with rfl | rfl | rfl | rfl | rfl
  · have q1 := hn1 (.inl rfl); have q2 := hn2 (.inl rfl)
    obtain ⟨_, rfl, rfl⟩ : (True ∧ t = { data := #[] } ∧ b = false) := by rcases hf' with ⟨_, h⟩ | ⟨h, _⟩ | ⟨h, _⟩ <;> first | exact ⟨trivial, h⟩ | (exact absurd h (by decide))
    obtain ⟨_, rfl, rfl⟩ : (True ∧ t2 = { data := #[] } ∧ b2 = false) := by rcases hg' with ⟨_, h⟩ | ⟨h, _⟩ | ⟨h, _⟩ <;> first | exact ⟨trivial, h⟩ | (exact absurd h (by decide))
    exact hnum n.toNat n2.toNat (by omega) (by omega) (by omega) (by omega) rfl rfl
  · obtain ⟨_, rfl, rfl⟩ : (True ∧ t = { data := #[] } ∧ b = false) := by rcases hf' with ⟨_, h⟩ | ⟨h, _⟩ | ⟨h, _⟩ <;> first | exact ⟨trivial, h⟩ | (exact absurd h (by decide))
    obtain ⟨_, rfl, rfl⟩ : (True ∧ t2 = { data := #[] } ∧ b2 = false) := by rcases hg' with ⟨_, h⟩ | ⟨h, _⟩ | ⟨h, _⟩ <;> first | exact ⟨trivial, h⟩ | (exact absurd h (by decide))
    exact hnum (n + 9223372036854775808).toNat (n2 + 9223372036854775808).toNat (by omega) (by omega) (by omega) (by omega) rfl rfl
  · have q1 := hn1 (.inr rfl); have q2 := hn2 (.inr rfl)
    obtain ⟨_, rfl, rfl⟩ : (True ∧ t = { data := #[] } ∧ b = false) := by rcases hf' with ⟨_, h⟩ | ⟨h, _⟩ | ⟨h, _⟩ <;> first | exact ⟨trivial, h⟩ | (exact absurd h (by decide))
    obtain ⟨_, rfl, rfl⟩ : (True ∧ t2 = { data := #[] } ∧ b2 = false) := by rcases hg' with ⟨_, h⟩ | ⟨h, _⟩ | ⟨h, _⟩ <;> first | exact ⟨trivial, h⟩ | (exact absurd h (by decide))
    exact hnum n.toNat n2.toNat (by omega) (by omega) (by omega) (by omega) rfl rfl
  · obtain ⟨_, rfl, rfl⟩ : (True ∧ n = 0 ∧ b = false) := by rcases hf' with ⟨⟨h, _⟩, _⟩ | ⟨_, h⟩ | ⟨h, _⟩ <;> first | exact ⟨trivial, h⟩ | (exact absurd rfl h) | (exact absurd h (by decide))
    obtain ⟨_, rfl, rfl⟩ : (True ∧ n2 = 0 ∧ b2 = false) := by rcases hg' with ⟨⟨h, _⟩, _⟩ | ⟨_, h⟩ | ⟨h, _⟩ <;> first | exact ⟨trivial, h⟩ | (exact absurd rfl h) | (exact absurd h (by decide))
    have ho : ordF ⟨4, 0, t, false⟩ ⟨4, 0, t2, false⟩ = cmpN (txtN t) (txtN t2) := by
      have hc := compare_cmpN t.data.toList t2.data.toList
      simp only [ordF, firstOf, hc]
      simp [cmp3, flagN, txtN]
      intro h; exact h.symm
    rw [ho]
    simp only [Fld.part]
    have := cmpN_esc (txtN t) (txtN t2) X Y
    simpa using this
  · obtain ⟨_, rfl, rfl⟩ : (True ∧ n = 0 ∧ t = { data := #[] }) := by rcases hf' with ⟨⟨_, h⟩, _⟩ | ⟨h, _⟩ | ⟨_, h⟩ <;> first | exact ⟨trivial, h⟩ | (exact absurd rfl h) | (exact absurd h (by decide))
    obtain ⟨_, rfl, rfl⟩ : (True ∧ n2 = 0 ∧ t2 = { data := #[] }) := by rcases hg' with ⟨⟨_, h⟩, _⟩ | ⟨h, _⟩ | ⟨_, h⟩ <;> first | exact ⟨trivial, h⟩ | (exact absurd rfl h) | (exact absurd h (by decide))
    cases b <;> cases b2 <;> simp [Fld.part, flagB, flagN, ordF, firstOf, cmp3, Lib.compareBytes, cmpN]

theorem part_cons (f : Fld) : ∃ x l, f.part = x :: l := by
  have h : 0 < f.part.length := by
    unfold Fld.part
    split
    · rw [highB_len]; omega
    split
    · rw [highB_len]; omega
    split
    · simp
    · simp [flagB]
  cases hp : f.part with
  | nil => rw [hp] at h; simp at h
  | cons x l => exact ⟨x, l, rfl⟩

theorem rows_cmp : ∀ (fa fb : List Fld), fits fa = true → fits fb = true → (∀ f ∈ fa, f.Ok) → (∀ f ∈ fb, f.Ok) → (∀ i (h1 : i < fa.length) (h2 : i < fb.length), fa[i].kind = fb[i].kind) →
    cmpN (fa.flatMap Fld.part) (fb.flatMap Fld.part) = rowsF fa fb
  | [], [], _, _, _, _, _ => by simp [cmpN, rowsF]
  | [], g :: m, _, _, _, _, _ => by
    obtain ⟨x, l, h⟩ := part_cons g
    simp [List.flatMap_cons, h, cmpN, rowsF]
  | f :: l, [], _, _, _, _, _ => by
    obtain ⟨x, l, h⟩ := part_cons f
    simp [List.flatMap_cons, h, cmpN, rowsF]
  | f :: l, g :: m, h1, h2, o1, o2, hk => by
    simp only [fits, List.all_cons, Bool.and_eq_true] at h1 h2
    have ih := rows_cmp l m h1.2 h2.2 (fun x hx => o1 x (by simp [hx])) (fun x hx => o2 x (by simp [hx])) (fun i q1 q2 => hk (i + 1) (by simp; omega) (by simp; omega))
    rw [List.flatMap_cons, List.flatMap_cons, part_cmp f g h1.1 h2.1 (o1 f (by simp)) (o2 g (by simp)) (hk 0 (by simp) (by simp)), rowsF, ih]

theorem cmp3_anti (a b : Int) : cmp3 b a = -cmp3 a b := by
  unfold cmp3
  by_cases h1 : a < b
  · rw [if_pos h1, if_neg (by omega), if_pos h1]; rfl
  · by_cases h2 : b < a
    · simp [h1, h2]
    · simp [h1, h2]
theorem cmpN_anti : ∀ (a b : List Nat), cmpN b a = -cmpN a b
  | [], [] => by simp [cmpN]
  | [], _ :: _ => by simp [cmpN]
  | _ :: _, [] => by simp [cmpN]
  | x :: a, y :: b => by
    have ih := cmpN_anti a b
    simp only [cmpN]
    by_cases h1 : x < y
    · rw [if_pos h1, if_neg (by omega), if_pos h1]; rfl
    · by_cases h2 : y < x
      · simp [h1, h2]
      · rw [if_neg h1, if_neg h2, if_neg h2, if_neg h1]; exact ih
theorem firstOf_anti : ∀ l : List Int, firstOf (l.map fun x => -x) = -firstOf l
  | [] => by simp [firstOf]
  | x :: l => by
    have ih := firstOf_anti l
    simp only [List.map_cons, firstOf]
    by_cases h : x = 0
    · rw [if_pos h, if_pos (by omega)]; exact ih
    · rw [if_neg h, if_neg (by omega)]
theorem ordF_anti (f g : Fld) : ordF g f = -ordF f g := by
  unfold ordF
  rw [← firstOf_anti]
  simp only [List.map_cons, List.map_nil, compare_cmpN]
  rw [cmp3_anti f.kind, cmp3_anti f.num, cmpN_anti, cmp3_anti (flagN f.is : Int)]
theorem rowsF_anti : ∀ (fa fb : List Fld), rowsF fb fa = -rowsF fa fb
  | [], [] => by simp [rowsF]
  | [], _ :: _ => by simp [rowsF]
  | _ :: _, [] => by simp [rowsF]
  | f :: l, g :: m => by
    have ih := rowsF_anti l m
    simp only [rowsF]
    rw [ordF_anti]
    by_cases h : ordF f g = 0
    · rw [if_pos (by omega), if_pos h]; exact ih
    · rw [if_neg (by omega), if_neg h]

theorem cmpN_three : ∀ (a b : List Nat), cmpN a b = -1 ∨ cmpN a b = 0 ∨ cmpN a b = 1
  | [], [] => by simp [cmpN]
  | [], _ :: _ => by simp [cmpN]
  | _ :: _, [] => by simp [cmpN]
  | x :: a, y :: b => by
    have ih := cmpN_three a b
    simp only [cmpN]
    split
    · simp
    split
    · simp
    · exact ih

theorem firstOf_three : ∀ l : List Int, (∀ x ∈ l, x = -1 ∨ x = 0 ∨ x = 1) → firstOf l = -1 ∨ firstOf l = 0 ∨ firstOf l = 1
  | [], _ => by simp [firstOf]
  | x :: l, h => by
    simp only [firstOf]
    split
    · exact firstOf_three l (fun y hy => h y (by simp [hy]))
    · exact h x (by simp)
theorem cmp3_three (a b : Int) : cmp3 a b = -1 ∨ cmp3 a b = 0 ∨ cmp3 a b = 1 := by
  unfold cmp3
  split
  · simp
  split <;> simp
theorem ordF_three (f g : Fld) : ordF f g = -1 ∨ ordF f g = 0 ∨ ordF f g = 1 := by
  refine firstOf_three _ fun x hx => ?_
  simp only [List.mem_cons, List.not_mem_nil, or_false] at hx
  rcases hx with rfl | rfl | rfl | rfl
  · exact cmp3_three _ _
  · exact cmp3_three _ _
  · rw [compare_cmpN]; exact cmpN_three _ _
  · exact cmp3_three _ _
theorem rowsF_three : ∀ (fa fb : List Fld), rowsF fa fb = -1 ∨ rowsF fa fb = 0 ∨ rowsF fa fb = 1
  | [], [] => by simp [rowsF]
  | [], _ :: _ => by simp [rowsF]
  | _ :: _, [] => by simp [rowsF]
  | f :: l, g :: m => by
    simp only [rowsF]
    split
    · exact rowsF_three l m
    · exact ordF_three f g

theorem highF_lt : ∀ (k x : Nat), ∀ n ∈ highF k x, n < 256
  | 0, _, n, h => by simp [highF] at h
  | k + 1, x, n, h => by
    rw [highF, List.mem_append] at h
    rcases h with h | h
    · exact highF_lt k _ n h
    · simp at h; omega
theorem escN_lt : ∀ (l : List Nat), (∀ n ∈ l, n < 256) → ∀ n ∈ escN l, n < 256
  | [], _, n, h => by simp [escN] at h
  | c :: l, hl, n, h => by
    rw [escN, List.mem_append] at h
    rcases h with h | h
    · split at h
      · simp at h; omega
      · simp at h; subst h; exact hl n (by simp)
    · exact escN_lt l (fun x hx => hl x (by simp [hx])) n h
theorem part_lt (f : Fld) : ∀ n ∈ f.part, n < 256 := by
  intro n h
  unfold Fld.part at h
  split at h
  · exact highF_lt 8 _ n h
  split at h
  · exact highF_lt 8 _ n h
  split at h
  · rw [List.mem_append] at h
    rcases h with h | h
    · refine escN_lt _ ?_ n h
      intro x hx
      simp only [txtN, List.mem_map] at hx
      obtain ⟨y, _, rfl⟩ := hx
      exact UInt8.toNat_lt y
    · simp at h; omega
  · simp [flagB, flagN] at h
    split at h <;> omega

/-- A key's text. -/
def keyS (fs : List Fld) : ByteArray := strOfNums ((keyL fs).map fun n : Nat => (n : Int))
theorem keyS_nums (fs : List Fld) : (keyS fs).data.toList.map (fun x => x.toNat) = keyL fs := by
  unfold keyS
  rw [strOfNums_data, List.map_map, List.map_map]
  have h : ∀ n ∈ keyL fs, n < 256 := by
    intro n hn
    unfold keyL at hn
    split at hn
    · obtain ⟨f, _, hf⟩ := List.mem_flatMap.1 hn
      exact part_lt f n hf
    · cases hn
  have : ∀ l : List Nat, (∀ n ∈ l, n < 256) → l.map ((fun x : UInt8 => x.toNat) ∘ (fun n : Int => UInt8.ofNat n.toNat) ∘ fun n : Nat => (n : Int)) = l := by
    intro l hl
    induction l with
    | nil => rfl
    | cons x l ih =>
      rw [List.map_cons, ih (fun n hn => hl n (by simp [hn]))]
      have := hl x (by simp)
      simp [Nat.mod_eq_of_lt this]
  exact this _ h

/-- What the law asks of two keys. -/
theorem keys_order (fa fb : List Fld) (h1 : fits fa = true) (h2 : fits fb = true) (o1 : ∀ f ∈ fa, f.Ok) (o2 : ∀ f ∈ fb, f.Ok) (hk : ∀ i (h1 : i < fa.length) (h2 : i < fb.length), fa[i].kind = fb[i].kind) :
    Op.bytesLess (keyS fa).toList (keyS fb).toList = (rowsF fa fb == -1) ∧ ((keyS fa).toList == (keyS fb).toList) = (rowsF fa fb == 0) := by
  have h := compare_cmpN (keyS fa).data.toList (keyS fb).data.toList
  rw [keyS_nums, keyS_nums, compare_less, keyL, keyL, if_pos h1, if_pos h2, rows_cmp fa fb h1 h2 o1 o2 hk] at h
  rw [← Lib.toList_data, ← Lib.toList_data] at h
  by_cases hl : Op.bytesLess (keyS fa).toList (keyS fb).toList = true
  · rw [if_pos hl] at h
    have hne : ¬ (keyS fa).toList = (keyS fb).toList := fun e => by rw [e, bytesLess_irrefl] at hl; cases hl
    rw [hl, ← h]
    exact ⟨rfl, by simpa using hne⟩
  · rw [if_neg hl] at h
    have hl' : Op.bytesLess (keyS fa).toList (keyS fb).toList = false := by simpa using hl
    rw [hl']
    by_cases he : (keyS fa).toList = (keyS fb).toList
    · rw [if_pos he] at h
      rw [← h, he]; simp
    · rw [if_neg he] at h
      rw [← h]
      exact ⟨rfl, by simpa using he⟩

end Go.Proofs.Ytgjfijognplfpaa.code
