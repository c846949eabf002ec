/- Plain mathematics for the layer hash: the logarithm by squaring, its bounds, that it never falls, that doubling adds a whole. No program is named here. -/
import Derived.Lib.BitFns
namespace Go.Proofs.Ytcofmfjhgbihkaa.hm

/-- k more binary places of the logarithm of y (in parts of 2 to the 31), l the places so far. -/
def lgF : Nat → Nat → Nat → Nat
  | 0, _, l => l
  | k + 1, y, l => if y * y / 2147483648 < 4294967296 then lgF k (y * y / 2147483648) (l * 2) else lgF k (y * y / 2147483648 / 2) (l * 2 + 1)

theorem lgF_add (k : Nat) : ∀ y l, lgF k y l = l * 2 ^ k + lgF k y 0 := by
  induction k with
  | zero => intro y l; simp [lgF]
  | succ k ih =>
    intro y l
    simp only [lgF]
    split
    · rw [ih _ (l * 2), ih _ (0 * 2), Nat.pow_succ]
      simp [Nat.mul_comm, Nat.mul_assoc]
    · rw [ih _ (l * 2 + 1), ih _ (0 * 2 + 1), Nat.pow_succ, Nat.add_mul]
      simp [Nat.mul_comm, Nat.mul_assoc, Nat.add_assoc]

theorem lgF_lt (k : Nat) : ∀ y, lgF k y 0 < 2 ^ k := by
  induction k with
  | zero => intro y; simp [lgF]
  | succ k ih =>
    intro y
    simp only [lgF]
    split
    · have := ih (y * y / 2147483648); rw [Nat.pow_succ]; simp; omega
    · rw [lgF_add]; have := ih (y * y / 2147483648 / 2); rw [Nat.pow_succ]; simp; omega

theorem lgF_mono (k : Nat) : ∀ y y', y ≤ y' → lgF k y 0 ≤ lgF k y' 0 := by
  induction k with
  | zero => intro y y' _; simp [lgF]
  | succ k ih =>
    intro y y' h
    have h2 : y * y / 2147483648 ≤ y' * y' / 2147483648 := Nat.div_le_div_right (Nat.mul_le_mul h h)
    simp only [lgF]
    generalize y * y / 2147483648 = z at h2
    generalize y' * y' / 2147483648 = z' at h2
    by_cases a : z < 4294967296
    · rw [if_pos a]
      by_cases b : z' < 4294967296
      · rw [if_pos b]; exact ih _ _ h2
      · rw [if_neg b, lgF_add k (z' / 2)]
        have := lgF_lt k z
        simp; omega
    · rw [if_neg a, if_neg (by omega), lgF_add k (z / 2), lgF_add k (z' / 2)]
      have := ih (z / 2) (z' / 2) (by omega)
      omega

theorem lgF_le (k : Nat) (y l : Nat) : l ≤ lgF k y l := by
  rw [lgF_add]
  have := Nat.le_mul_of_pos_right l (Nat.two_pow_pos k)
  omega

/-- The chapter's logarithm. -/
def lgx (x : Nat) : Nat := if x = 0 then 0 else lgF 16 (x * 2 ^ (31 - Nat.log2 x)) (Nat.log2 x)

theorem log2_le (x : Nat) (h : x < 4294967296) : Nat.log2 x ≤ 31 := by
  by_cases h0 : x = 0
  · subst h0; decide
  · have := (Nat.log2_lt h0 (k := 32)).2 (by simpa using h); omega

theorem log2_lo (x : Nat) (h0 : 0 < x) : 2 ^ Nat.log2 x ≤ x := Nat.log2_self_le (by omega)
theorem log2_hi (x : Nat) : x < 2 ^ (Nat.log2 x + 1) := Nat.lt_log2_self

theorem log2_eq {x n : Nat} (h1 : 2 ^ n ≤ x) (h2 : x < 2 ^ (n + 1)) : Nat.log2 x = n := by
  have h0 : x ≠ 0 := by have := Nat.two_pow_pos n; omega
  have a := (Nat.log2_lt h0 (k := n + 1)).2 h2
  have b := (Nat.le_log2 h0 (k := n)).2 h1
  omega

theorem bitLen_log2 : ∀ (m x : Nat), x ≤ m → 0 < x → x < 2 ^ 64 → Lib.bitLen x = Nat.log2 x + 1 := by
  intro m
  induction m with
  | zero => intro x h h0; omega
  | succ m ih =>
    intro x h h0 hx
    by_cases h1 : x = 1
    · subst h1; decide +kernel
    · rw [Lib.bitLen_half x (by omega) hx, ih (x / 2) (by omega) (by omega) (by omega), Nat.log2_def x, if_pos (by omega)]
      omega

theorem bitLen_log (x : Nat) (h0 : 0 < x) (h : x < 4294967296) : Lib.bitLen x = Nat.log2 x + 1 := bitLen_log2 x x (Nat.le_refl _) h0 (by omega)

theorem start_lo (x : Nat) (h0 : 0 < x) (h : x < 4294967296) : 2147483648 ≤ x * 2 ^ (31 - Nat.log2 x) := by
  have a := log2_lo x h0
  have b := log2_le x h
  have c : 2 ^ Nat.log2 x * 2 ^ (31 - Nat.log2 x) = 2147483648 := by rw [← Nat.pow_add, Nat.add_sub_cancel' b]
  have := Nat.mul_le_mul_right (2 ^ (31 - Nat.log2 x)) a
  omega

theorem start_hi (x : Nat) (h : x < 4294967296) : x * 2 ^ (31 - Nat.log2 x) < 4294967296 := by
  have a := log2_hi x
  have b := log2_le x h
  have c : 2 ^ (Nat.log2 x + 1) * 2 ^ (31 - Nat.log2 x) = 4294967296 := by rw [← Nat.pow_add, show Nat.log2 x + 1 + (31 - Nat.log2 x) = 32 from by omega]
  have := Nat.mul_lt_mul_of_pos_right a (Nat.two_pow_pos (31 - Nat.log2 x))
  omega

/-- A square's upper part of a number below 2 to the 32 has at most 33 bits. -/
theorem sq_lt (y : Nat) (h : y < 4294967296) : y * y < 18446744073709551616 := by
  have := Nat.mul_lt_mul'' h h
  simpa using this

theorem sq_half (y : Nat) (h : y < 4294967296) : y * y / 2147483648 / 2 < 4294967296 := by
  have := sq_lt y h
  omega

theorem lgx_lt (x : Nat) (h : x < 4294967296) : lgx x < 2097152 := by
  unfold lgx
  split
  · omega
  · rw [lgF_add]
    have := lgF_lt 16 (x * 2 ^ (31 - Nat.log2 x))
    have := log2_le x h
    simp at *
    omega

theorem lgx_mono (x y : Nat) (h : x ≤ y) : lgx x ≤ lgx y := by
  unfold lgx
  by_cases h0 : x = 0
  · rw [if_pos h0]; omega
  · rw [if_neg h0, if_neg (by omega), lgF_add, lgF_add 16 (y * _)]
    have hl : Nat.log2 x ≤ Nat.log2 y := (Nat.le_log2 (by omega)).2 (Nat.le_trans (log2_lo x (by omega)) h)
    rcases Nat.lt_or_ge (Nat.log2 x) (Nat.log2 y) with g | g
    · have := lgF_lt 16 (x * 2 ^ (31 - Nat.log2 x))
      simp at *
      omega
    · have e : Nat.log2 x = Nat.log2 y := by omega
      rw [e]
      have := lgF_mono 16 (x * 2 ^ (31 - Nat.log2 y)) (y * 2 ^ (31 - Nat.log2 y)) (Nat.mul_le_mul_right _ h)
      omega

theorem lgx_double (x : Nat) (h0 : 0 < x) (h : x < 2147483648) : lgx (2 * x) = lgx x + 65536 := by
  have a := log2_lo x h0
  have b := log2_hi x
  have hl : Nat.log2 x ≤ 30 := by
    have := (Nat.log2_lt (show x ≠ 0 by omega) (k := 31)).2 (by simpa using h); omega
  have e : Nat.log2 (2 * x) = Nat.log2 x + 1 := log2_eq (by rw [Nat.pow_succ]; omega) (by rw [Nat.pow_succ]; omega)
  unfold lgx
  rw [if_neg (by omega), if_neg (by omega), e, lgF_add, lgF_add 16 (x * _)]
  have e2 : 2 * x * 2 ^ (31 - (Nat.log2 x + 1)) = x * 2 ^ (31 - Nat.log2 x) := by
    rw [show 31 - Nat.log2 x = (31 - (Nat.log2 x + 1)) + 1 from by omega, Nat.pow_succ]
    simp [Nat.mul_comm, Nat.mul_assoc]
  rw [e2]
  simp
  omega

theorem lgx_pow : ∀ k : Fin 32, lgx (2 ^ k.val) = k.val * 65536 := by decide +kernel
theorem lgx_1 : lgx 1 = 0 := by decide +kernel
theorem lgx_3 : lgx 3 = 103872 := by decide +kernel
theorem lgx_top : lgx 4294967295 = 2097151 := by decide +kernel

end Go.Proofs.Ytcofmfjhgbihkaa.hm
