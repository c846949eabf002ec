/- CRC-32C over numbers: no program in here. A row of bytes as one number, a bit at a time from the lowest on. -/
namespace Go.Proofs.YtkhghkklekjdaaaDoor.fm
set_option linter.unusedVariables false

/-- One bit further. -/
def stepB (u : Nat) : Nat := if u % 2 = 1 then u / 2 ^^^ 2197175160 else u / 2
def steps : Nat → Nat → Nat
  | 0, u => u
  | n + 1, u => steps n (stepB u)
def sumB (r b : Nat) : Nat := steps 8 (r ^^^ b)
def regL (r : Nat) (l : List Nat) : Nat := l.foldl sumB r
def crc (l : List Nat) : Nat := 4294967295 - regL 4294967295 l

theorem xor_half (a b : Nat) : (a ^^^ b) / 2 = a / 2 ^^^ b / 2 := Nat.xor_div_two
theorem xor_odd (a b : Nat) : (a ^^^ b) % 2 = 1 ↔ ¬ (a % 2 = 1 ↔ b % 2 = 1) := Nat.xor_mod_two_eq_one
theorem mul_xor (n a b : Nat) : 2 ^ n * (a ^^^ b) = 2 ^ n * a ^^^ 2 ^ n * b := by
  apply Nat.eq_of_testBit_eq
  intro i
  rw [Nat.testBit_xor, Nat.testBit_two_pow_mul, Nat.testBit_two_pow_mul, Nat.testBit_two_pow_mul, Nat.testBit_xor]
  by_cases h : n ≤ i <;> simp [h]

theorem step_xor (a b : Nat) : stepB (a ^^^ b) = stepB a ^^^ stepB b := by
  unfold stepB
  rw [xor_half]
  have h := xor_odd a b
  by_cases ha : a % 2 = 1 <;> by_cases hb : b % 2 = 1
  · rw [if_neg (by rw [h]; simp [ha, hb]), if_pos ha, if_pos hb, Nat.xor_assoc (a / 2), ← Nat.xor_assoc 2197175160, Nat.xor_comm 2197175160 (b / 2), Nat.xor_assoc (b / 2), Nat.xor_self, Nat.xor_zero]
  · rw [if_pos (by rw [h]; simp [ha, hb]), if_pos ha, if_neg hb, Nat.xor_assoc, Nat.xor_comm (b / 2), ← Nat.xor_assoc]
  · rw [if_pos (by rw [h]; simp [ha, hb]), if_neg ha, if_pos hb, Nat.xor_assoc]
  · rw [if_neg (by rw [h]; simp [ha, hb]), if_neg ha, if_neg hb]
theorem steps_xor : ∀ n a b, steps n (a ^^^ b) = steps n a ^^^ steps n b
  | 0, a, b => rfl
  | n + 1, a, b => by rw [steps, step_xor, steps_xor n, steps, steps]
theorem steps_add : ∀ m n u, steps (m + n) u = steps n (steps m u)
  | 0, n, u => by rw [Nat.zero_add]; rfl
  | m + 1, n, u => by rw [Nat.add_right_comm, steps, steps_add m n, steps]
theorem step_even (q : Nat) : stepB (2 * q) = q := by unfold stepB; rw [if_neg (by omega)]; omega
theorem steps_even : ∀ n q, steps n (2 ^ n * q) = q
  | 0, q => by simp [steps]
  | n + 1, q => by rw [steps, show 2 ^ (n + 1) * q = 2 * (2 ^ n * q) from by rw [Nat.pow_succ, Nat.mul_comm (2 ^ n) 2, Nat.mul_assoc], step_even, steps_even n]
theorem step_lt (u : Nat) (h : u < 4294967296) : stepB u < 4294967296 := by
  unfold stepB
  split
  · exact Nat.xor_lt_two_pow (n := 32) (by omega) (by decide)
  · omega
theorem steps_lt : ∀ n u, u < 4294967296 → steps n u < 4294967296
  | 0, u, h => h
  | n + 1, u, h => steps_lt n _ (step_lt u h)
theorem step_zero (u : Nat) (h : u < 4294967296) (h0 : stepB u = 0) : u = 0 := by
  unfold stepB at h0
  split at h0
  · have : u / 2 = 2197175160 := by
      have := congrArg (· ^^^ 2197175160) h0
      simpa [Nat.xor_assoc] using this
    omega
  · omega
theorem steps_zero : ∀ n u, u < 4294967296 → steps n u = 0 → u = 0
  | 0, u, _, h0 => h0
  | n + 1, u, h, h0 => step_zero u h (steps_zero n _ (step_lt u h) h0)
theorem sumB_lt (r b : Nat) (hr : r < 4294967296) (hb : b < 256) : sumB r b < 4294967296 := steps_lt 8 _ (Nat.xor_lt_two_pow (n := 32) hr (by omega))
theorem regL_lt : ∀ l r, r < 4294967296 → (∀ b ∈ l, b < 256) → regL r l < 4294967296
  | [], r, h, _ => h
  | b :: l, r, h, hb => regL_lt l _ (sumB_lt r b h (hb b (by simp))) (fun c hc => hb c (by simp [hc]))
theorem crc_lt (l : List Nat) : crc l < 4294967296 := by unfold crc; omega

/-- Four bits of a table: what the lowest four come to. -/
def nibs : List Nat := [0, 274646895, 549293790, 820201905, 1098587580, 1361435347, 1640403810, 1905808397, 2197175160, 2460548119, 2722870694, 2987750089, 3280807620, 3553878443, 3811616794, 4084100981]
def nib (q : Nat) : Nat := nibs.getD q 0
theorem nib_lt (q : Nat) : nib q < 4294967296 := by
  unfold nib
  by_cases h : q < 16
  · have : ∀ q : Fin 16, nibs.getD q.val 0 < 4294967296 := by decide
    exact this ⟨q, h⟩
  · simp [List.getD, nibs, show ¬ q < 16 from h]
theorem four_nib (q : Nat) (h : q < 16) : steps 4 q = nib q := by
  have : ∀ q : Fin 16, steps 4 q.val = nib q.val := by decide
  exact this ⟨q, h⟩
/-- A number is its lower bits and its upper ones. -/
theorem split_xor (n s : Nat) : s = (2 ^ n * (s / 2 ^ n)) ^^^ (s % 2 ^ n) := by
  have h : s % 2 ^ n < 2 ^ n := Nat.mod_lt _ (Nat.two_pow_pos n)
  have e := Nat.div_add_mod s (2 ^ n)
  have : 2 ^ n * (s / 2 ^ n) ^^^ s % 2 ^ n = 2 ^ n * (s / 2 ^ n) + s % 2 ^ n := by
    rw [Nat.xor_comm]
    apply Nat.eq_of_testBit_eq
    intro i
    rw [Nat.testBit_xor, Nat.testBit_two_pow_mul_add _ h]
    by_cases hi : i < n
    · rw [if_pos hi, Nat.testBit_two_pow_mul]; simp [Nat.not_le.2 hi]
    · rw [if_neg hi, Nat.testBit_two_pow_mul]
      have : (s % 2 ^ n).testBit i = false := Nat.testBit_lt_two_pow (Nat.lt_of_lt_of_le h (Nat.pow_le_pow_right (by decide) (by omega)))
      rw [this]; simp; omega
  rw [this, e]
theorem four (s : Nat) : steps 4 s = s / 16 ^^^ nib (s % 16) := by
  have h := split_xor 4 s
  rw [show (2 : Nat) ^ 4 = 16 from rfl] at h
  rw [h]
  rw [steps_xor]
  have h1 : steps 4 (16 * (s / 16)) = s / 16 := steps_even 4 _
  rw [h1, four_nib _ (Nat.mod_lt _ (by decide)), ← h]
theorem sumB_four (r b : Nat) : sumB r b = (((r ^^^ b) / 16 ^^^ nib ((r ^^^ b) % 16)) / 16) ^^^ nib (((r ^^^ b) / 16 ^^^ nib ((r ^^^ b) % 16)) % 16) := by
  unfold sumB
  rw [show (8 : Nat) = 4 + 4 from rfl, steps_add, four (r ^^^ b), four]

/-- Bytes as one number, the lowest first. -/
def val : List Nat → Nat
  | [] => 0
  | b :: l => b + 256 * val l
theorem val_cons_xor (b : Nat) (l : List Nat) (hb : b < 256) : val (b :: l) = b ^^^ (256 * val l) := by
  have h := split_xor 8 (b + 256 * val l)
  rw [show (2 : Nat) ^ 8 = 256 from rfl, show (b + 256 * val l) / 256 = val l from by omega, show (b + 256 * val l) % 256 = b from by omega] at h
  rw [val, h, Nat.xor_comm]
theorem val_lt : ∀ l, (∀ b ∈ l, b < 256) → val l < 256 ^ l.length
  | [], _ => by simp [val]
  | b :: l, h => by
    have h1 := val_lt l (fun c hc => h c (by simp [hc]))
    have h2 := h b (by simp)
    rw [val, List.length_cons, Nat.pow_succ]
    omega
theorem val_append : ∀ l m, val (l ++ m) = val l + 256 ^ l.length * val m
  | [], m => by simp [val]
  | b :: l, m => by
    rw [List.cons_append, val, val_append l m, val, List.length_cons, Nat.pow_succ, Nat.mul_add, ← Nat.mul_assoc, Nat.mul_comm 256 (256 ^ l.length)]
    omega
theorem val_inj : ∀ l m, (∀ b ∈ l, b < 256) → (∀ b ∈ m, b < 256) → l.length = m.length → val l = val m → l = m
  | [], [], _, _, _, _ => rfl
  | b :: l, c :: m, hb, hc, hl, h => by
    have h1 := hb b (by simp)
    have h2 := hc c (by simp)
    rw [val, val] at h
    have e1 : b = c := by omega
    have e2 : val l = val m := by omega
    rw [e1, val_inj l m (fun x hx => hb x (by simp [hx])) (fun x hx => hc x (by simp [hx])) (by simpa using hl) e2]
  | [], _ :: _, _, _, h, _ => by simp at h
  | _ :: _, [], _, _, h, _ => by simp at h

/-- The register behind some bytes, with what is still to come laid over it. -/
theorem steps_val : ∀ l m r, (∀ b ∈ l, b < 256) → steps (8 * l.length) (r ^^^ val (l ++ m)) = regL r l ^^^ val m
  | [], m, r, _ => rfl
  | b :: l, m, r, h => by
    have hb := h b (by simp)
    rw [List.cons_append, val_cons_xor _ _ hb, ← Nat.xor_assoc, List.length_cons, Nat.mul_add, Nat.mul_one, Nat.add_comm, steps_add, steps_xor]
    have h1 : steps 8 (256 * val (l ++ m)) = val (l ++ m) := steps_even 8 _
    rw [h1]
    exact steps_val l m _ (fun c hc => h c (by simp [hc]))

theorem xor_compl (r : Nat) (h : r < 4294967296) : 4294967295 ^^^ r = 4294967295 - r := by
  apply Nat.eq_of_testBit_eq
  intro i
  rw [Nat.testBit_xor]
  have e1 : (4294967295 - r).testBit i = (decide (i < 32) && !r.testBit i) := by
    have := Nat.testBit_two_pow_sub_succ (x := r) (n := 32) (by omega) i
    rw [← this, show (2 : Nat) ^ 32 = 4294967296 from rfl]
    congr 1
    omega
  have e2 : (4294967295 : Nat).testBit i = decide (i < 32) := by
    have := Nat.testBit_two_pow_sub_one 32 i
    exact this
  rw [e1, e2]
  by_cases hi : i < 32
  · simp [hi]
  · have : r.testBit i = false := Nat.testBit_lt_two_pow (Nat.lt_of_lt_of_le h (by
      show 2 ^ 32 ≤ 2 ^ i
      exact Nat.pow_le_pow_right (by decide) (by omega)))
    simp [hi, this]

/-- Two rows of bytes of which each ends with its own sum, and that differ in 32 bits in a row at the most, are the same. -/
theorem burst (x y sx sy : List Nat) (hx : ∀ b ∈ x, b < 256) (hy : ∀ b ∈ y, b < 256) (hl : x.length = y.length) (kx : val sx = crc x) (ky : val sy = crc y) (p w : Nat) (hw : w < 4294967296)
    (hp : val (y ++ sy) = val (x ++ sx) ^^^ 2 ^ p * w) : w = 0 := by
  have fin : ∀ z s : List Nat, (∀ b ∈ z, b < 256) → val s = crc z → steps (8 * z.length) (4294967295 ^^^ val (z ++ s)) = 4294967295 := by
    intro z s hz k
    rw [steps_val z s _ hz, k]
    have h := regL_lt z 4294967295 (by decide) hz
    unfold crc
    generalize regL 4294967295 z = r at h ⊢
    rw [← xor_compl r h, Nat.xor_comm 4294967295, ← Nat.xor_assoc, Nat.xor_self, Nat.zero_xor]
  have h1 := fin x sx hx kx
  have h2 := fin y sy hy ky
  rw [hp, ← Nat.xor_assoc, steps_xor, ← hl, h1] at h2
  have h3 : steps (8 * x.length) (2 ^ p * w) = 0 := by
    have := congrArg (4294967295 ^^^ ·) h2
    simpa [← Nat.xor_assoc] using this
  by_cases hle : p ≤ 8 * x.length
  · rw [show 8 * x.length = p + (8 * x.length - p) from by omega, steps_add, steps_even] at h3
    exact steps_zero _ w hw h3
  · rw [show 2 ^ p * w = 2 ^ (8 * x.length) * (2 ^ (p - 8 * x.length) * w) from by rw [← Nat.mul_assoc, ← Nat.pow_add]; congr 2; omega, steps_even] at h3
    have := Nat.two_pow_pos (p - 8 * x.length)
    rcases Nat.mul_eq_zero.1 h3 with h | h
    · omega
    · exact h

/-- A byte turned at a place. -/
theorem val_set (l : List Nat) (i b : Nat) (hi : i < l.length) (h8 : ∀ b ∈ l, b < 256) (j : Nat) (hj : j < 8) (hb : b = l.getD i 0 ^^^ 2 ^ j) : val (l.set i b) = val l ^^^ 2 ^ (8 * i + j) := by
  induction l generalizing i with
  | nil => simp at hi
  | cons c l ih =>
    have hc := h8 c (by simp)
    cases i with
    | zero =>
      have hb' : b = c ^^^ 2 ^ j := by simpa using hb
      have hlt : b < 256 := by
        rw [hb']
        exact Nat.xor_lt_two_pow (n := 8) hc (Nat.pow_lt_pow_right (by decide) hj)
      rw [List.set_cons_zero, val_cons_xor _ _ hlt, val_cons_xor _ _ hc, hb', Nat.mul_zero, Nat.zero_add, Nat.xor_assoc, Nat.xor_comm (2 ^ j), ← Nat.xor_assoc]
    | succ i =>
      have := ih i (by simpa using hi) (fun c hc => h8 c (by simp [hc])) (by simpa using hb)
      rw [List.set_cons_succ, val_cons_xor _ _ hc, val_cons_xor _ _ hc, this, Nat.xor_assoc]
      rw [show (256 : Nat) = 2 ^ 8 from rfl, mul_xor, ← Nat.pow_add, show 8 + (8 * i + j) = 8 * (i + 1) + j from by omega]
/-- The lowest bytes of a number. -/
def lowN : Nat → Nat → List Nat
  | 0, _ => []
  | k + 1, x => x % 256 :: lowN k (x / 256)
theorem lowN_len : ∀ k x, (lowN k x).length = k
  | 0, _ => rfl
  | k + 1, x => by rw [lowN, List.length_cons, lowN_len k]
theorem lowN_lt : ∀ k x, ∀ b ∈ lowN k x, b < 256
  | 0, _, b, h => by simp [lowN] at h
  | k + 1, x, b, h => by
    rcases List.mem_cons.1 h with rfl | h
    · omega
    · exact lowN_lt k _ b h
theorem val_lowN : ∀ k x, x < 256 ^ k → val (lowN k x) = x
  | 0, x, h => by simp at h; subst h; rfl
  | k + 1, x, h => by
    rw [lowN, val, val_lowN k (x / 256) (by rw [Nat.pow_succ] at h; omega)]
    omega

/-- What is summed up of a frame; and the frame. -/
def inner (kind : Nat) (ns : List Nat) : List Nat := kind :: (lowN 3 ns.length ++ ns)
def sealed (kind : Nat) (ns : List Nat) : List Nat := (167 :: inner kind ns) ++ lowN 4 (crc (inner kind ns))
theorem inner_len (kind : Nat) (ns : List Nat) : (inner kind ns).length = ns.length + 4 := by simp [inner, lowN_len]; omega
theorem sealed_len (kind : Nat) (ns : List Nat) : (sealed kind ns).length = ns.length + 9 := by simp [sealed, inner_len, lowN_len]
theorem inner_lt (kind : Nat) (ns : List Nat) (hk : kind < 256) (h : ∀ b ∈ ns, b < 256) : ∀ b ∈ inner kind ns, b < 256 := by
  intro b hb
  rcases List.mem_cons.1 hb with rfl | hb
  · exact hk
  rcases List.mem_append.1 hb with hb | hb
  · exact lowN_lt _ _ _ hb
  · exact h b hb
theorem sealed_lt (kind : Nat) (ns : List Nat) (hk : kind < 256) (h : ∀ b ∈ ns, b < 256) : ∀ b ∈ sealed kind ns, b < 256 := by
  intro b hb
  rcases List.mem_append.1 hb with hb | hb
  · rcases List.mem_cons.1 hb with rfl | hb
    · omega
    · exact inner_lt kind ns hk h b hb
  · exact lowN_lt _ _ _ hb

/-- How many bytes the frame at the front has, or why there is none. -/
def sub (l : List Nat) (lo n : Nat) : List Nat := (l.take (lo + n)).drop lo
theorem sub_len (l : List Nat) (lo n : Nat) (h : lo + n ≤ l.length) : (sub l lo n).length = n := by unfold sub; rw [List.length_drop, List.length_take]; omega
theorem sub_lt (l : List Nat) (lo n : Nat) (h : ∀ b ∈ l, b < 256) : ∀ b ∈ sub l lo n, b < 256 := fun b hb => h b (List.mem_of_mem_take (List.mem_of_mem_drop hb))
def sizeP (l : List Nat) : Except Int Nat :=
  if 0 < l.length ∧ l.getD 0 0 ≠ 167 then .error 10
  else if l.length < 5 then .error 11
  else if 1048575 < val (sub l 2 3) then .error 10
  else if l.length < val (sub l 2 3) + 9 then .error 11
  else .ok (val (sub l 2 3) + 9)
def openP (l : List Nat) : Except Int (Nat × List Nat × Nat) :=
  match sizeP l with
  | .error e => .error e
  | .ok n => if crc (sub l 1 (n - 5)) = val (sub l (n - 4) 4) then .ok (l.getD 1 0, sub l 5 (n - 9), n) else .error 12

theorem or_add (n x c : Nat) (hx : x < 2 ^ n) : x ||| c * 2 ^ n = x + c * 2 ^ n := by
  have := Nat.two_pow_add_eq_or_of_lt hx c
  rw [Nat.or_comm, Nat.mul_comm, ← this]; omega
theorem val_snoc (l : List Nat) (c : Nat) : val (l ++ [c]) = val l + 256 ^ l.length * c := by rw [val_append]; simp [val]
theorem take_snoc' (l : List Nat) (k : Nat) (h : k < l.length) : l.take (k + 1) = l.take k ++ [l.getD k 0] := by
  rw [List.take_succ_eq_append_getElem h]; simp [List.getD, h]

theorem size_facts {l : List Nat} {N : Nat} (h : sizeP l = .ok N) : 9 ≤ N ∧ N ≤ l.length ∧ N ≤ 1048584 ∧ l.getD 0 0 = 167 ∧ N = val (sub l 2 3) + 9 := by
  unfold sizeP at h
  split at h
  · cases h
  · split at h
    · cases h
    · split at h
      · cases h
      · split at h
        · cases h
        · rename_i h1 h2 h3 h4
          injection h with h
          have : l.getD 0 0 = 167 := by
            by_cases e : l.getD 0 0 = 167
            · exact e
            · exact absurd ⟨by omega, e⟩ h1
          exact ⟨by omega, by omega, by omega, this, h.symm⟩
theorem size_err {l : List Nat} {e : Int} (h : sizeP l = .error e) : e = 10 ∨ e = 11 := by
  unfold sizeP at h
  split at h
  · injection h with h; exact .inl h.symm
  · split at h
    · injection h with h; exact .inr h.symm
    · split at h
      · injection h with h; exact .inl h.symm
      · split at h
        · injection h with h; exact .inr h.symm
        · cases h
theorem open_err {l : List Nat} {e : Int} (h : sizeP l = .error e) : openP l = .error e := by unfold openP; rw [h]
theorem open_bad {l : List Nat} {N : Nat} (h : sizeP l = .ok N) (hc : ¬ crc (sub l 1 (N - 5)) = val (sub l (N - 4) 4)) : openP l = .error 12 := by unfold openP; rw [h]; simp only; rw [if_neg hc]
theorem open_good {l : List Nat} {N : Nat} (h : sizeP l = .ok N) (hc : crc (sub l 1 (N - 5)) = val (sub l (N - 4) 4)) : openP l = .ok (l.getD 1 0, sub l 5 (N - 9), N) := by unfold openP; rw [h]; simp only; rw [if_pos hc]

end Go.Proofs.YtkhghkklekjdaaaDoor.fm
