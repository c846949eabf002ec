/- What follows of frames: there and back, cut off, and with bits turned. No program in here. -/
import Derived.Test.YtkjenddmkmlbeaaDoorFrameMath
namespace Go.Proofs.YtkjenddmkmlbeaaDoor.fm
set_option linter.unusedVariables false

theorem sub_mid (A B C : List Nat) (lo n : Nat) (hlo : lo = A.length) (hn : n = B.length) : sub (A ++ (B ++ C)) lo n = B := by
  subst hlo hn
  unfold sub
  rw [← List.append_assoc, List.take_append_of_le_length (by simp), List.take_of_length_le (by simp)]
  simp
theorem getD_0 (a : Nat) (l : List Nat) : (a :: l).getD 0 0 = a := rfl
theorem getD_1 (a b : Nat) (l : List Nat) : (a :: b :: l).getD 1 0 = b := rfl

theorem sealed_eq (kind : Nat) (ns : List Nat) : sealed kind ns = 167 :: kind :: (lowN 3 ns.length ++ (ns ++ lowN 4 (crc (inner kind ns)))) := by simp [sealed, inner]
theorem val3 (n : Nat) (h : n ≤ 1048575) : val (lowN 3 n) = n := val_lowN 3 n (by omega)

theorem sealed_size (kind : Nat) (ns more : List Nat) (hl : ns.length ≤ 1048575) : sizeP (sealed kind ns ++ more) = .ok (ns.length + 9) := by
  have hlen : (sealed kind ns ++ more).length = ns.length + 9 + more.length := by rw [List.length_append, sealed_len]
  have h0 : (sealed kind ns ++ more).getD 0 0 = 167 := by rw [sealed_eq]; rfl
  have h2 : val (sub (sealed kind ns ++ more) 2 3) = ns.length := by
    rw [sealed_eq]
    have := sub_mid [167, kind] (lowN 3 ns.length) (ns ++ lowN 4 (crc (inner kind ns)) ++ more) 2 3 rfl (lowN_len 3 _).symm
    simp only [List.cons_append, List.nil_append, List.append_assoc] at this ⊢
    rw [this, val3 _ hl]
  unfold sizeP
  rw [if_neg (by rw [h0]; simp), if_neg (by omega), h2, if_neg (by omega), if_neg (by omega)]

theorem open_sealed (kind : Nat) (ns more : List Nat) (hl : ns.length ≤ 1048575) : openP (sealed kind ns ++ more) = .ok (kind, ns, ns.length + 9) := by
  have hs := sealed_size kind ns more hl
  have h1 : sub (sealed kind ns ++ more) 1 (ns.length + 9 - 5) = inner kind ns := by
    have := sub_mid [167] (inner kind ns) (lowN 4 (crc (inner kind ns)) ++ more) 1 (ns.length + 9 - 5) rfl (by rw [inner_len]; omega)
    rw [show sealed kind ns ++ more = [167] ++ (inner kind ns ++ (lowN 4 (crc (inner kind ns)) ++ more)) by simp [sealed]]
    exact this
  have h4 : sub (sealed kind ns ++ more) (ns.length + 9 - 4) 4 = lowN 4 (crc (inner kind ns)) := by
    have := sub_mid (167 :: inner kind ns) (lowN 4 (crc (inner kind ns))) more (ns.length + 9 - 4) 4 (by rw [List.length_cons, inner_len]; omega) (lowN_len 4 _).symm
    rw [show sealed kind ns ++ more = (167 :: inner kind ns) ++ (lowN 4 (crc (inner kind ns)) ++ more) by simp [sealed]]
    exact this
  have h5 : sub (sealed kind ns ++ more) 5 (ns.length + 9 - 9) = ns := by
    have := sub_mid (167 :: kind :: lowN 3 ns.length) ns (lowN 4 (crc (inner kind ns)) ++ more) 5 (ns.length + 9 - 9) (by simp [lowN_len]) (by omega)
    rw [show sealed kind ns ++ more = (167 :: kind :: lowN 3 ns.length) ++ (ns ++ (lowN 4 (crc (inner kind ns)) ++ more)) by simp [sealed_eq]]
    exact this
  have hk : (sealed kind ns ++ more).getD 1 0 = kind := by rw [sealed_eq]; rfl
  rw [open_good hs (by rw [h1, h4, val_lowN 4 _ (crc_lt _)]), hk, h5]

theorem open_cut (kind : Nat) (ns : List Nat) (hl : ns.length ≤ 1048575) (m : Nat) (hm : m < ns.length + 9) : openP ((sealed kind ns).take m) = .error 11 := by
  apply open_err
  have hlen : ((sealed kind ns).take m).length = m := by rw [List.length_take, sealed_len]; omega
  have hs := sealed_size kind ns [] hl
  rw [List.append_nil] at hs
  obtain ⟨_, _, _, h0, hN⟩ := size_facts hs
  have g0 : 0 < m → ((sealed kind ns).take m).getD 0 0 = 167 := by
    intro h
    rw [← h0]
    simp [List.getD, h]
  unfold sizeP
  rw [hlen]
  by_cases hm0 : 0 < m
  · rw [if_neg (by rw [g0 hm0]; simp)]
    by_cases h5 : m < 5
    · rw [if_pos h5]
    · have h2 : sub ((sealed kind ns).take m) 2 3 = sub (sealed kind ns) 2 3 := by
        unfold sub
        rw [List.take_take, Nat.min_eq_left (by omega)]
      rw [if_neg h5, h2, if_neg (by omega), if_pos (by omega)]
  · rw [if_neg (by omega), if_pos (by omega)]

theorem add_xor (a b : Nat) (h : a < 256) : a ^^^ (256 * b) = a + 256 * b := by
  have h := split_xor 8 (a + 256 * b)
  rw [show (2 : Nat) ^ 8 = 256 from rfl, show (a + 256 * b) / 256 = b from by omega, show (a + 256 * b) % 256 = a from by omega] at h
  rw [h, Nat.xor_comm]

/-- With a stretch of at most 32 bits turned, behind the first byte, a frame is none of the same length, or it is as it was. -/
theorem turned (kind : Nat) (ns ms : List Nat) (hk : kind < 256) (h8 : ∀ b ∈ ns, b < 256) (hm8 : ∀ b ∈ ms, b < 256) (hl : ms.length = ns.length + 9) (p W : Nat) (hW : W < 4294967296)
    (hv : val ms = val (sealed kind ns) ^^^ 2 ^ (8 + p) * W) (k : Nat) (bd : List Nat) (ho : openP ms = .ok (k, bd, ns.length + 9)) : ms = sealed kind ns := by
  have hs8 := sealed_lt kind ns hk h8
  have hcrc : crc (sub ms 1 (ns.length + 4)) = val (sub ms (ns.length + 5) 4) := by
    unfold openP at ho
    split at ho
    · cases ho
    · rename_i n hs
      split at ho
      · rename_i hc
        injection ho with ho
        have : n = ns.length + 9 := congrArg (·.2.2) ho
        subst this
        exact hc
      · cases ho
  obtain ⟨x0, r, rfl⟩ : ∃ x0 r, ms = x0 :: r := by
    cases ms with
    | nil => simp at hl
    | cons a r => exact ⟨a, r, rfl⟩
  have hr : r.length = ns.length + 8 := by simpa using hl
  have e1 : sub (x0 :: r) 1 (ns.length + 4) = r.take (ns.length + 4) := by
    unfold sub; rw [show 1 + (ns.length + 4) = (ns.length + 4) + 1 from by omega, List.take_succ_cons, List.drop_succ_cons, List.drop_zero]
  have e2 : sub (x0 :: r) (ns.length + 5) 4 = r.drop (ns.length + 4) := by
    unfold sub
    rw [List.take_of_length_le (by rw [List.length_cons]; omega), show ns.length + 5 = (ns.length + 4) + 1 from by omega, List.drop_succ_cons]
  rw [e1, e2] at hcrc
  have hx0 : x0 < 256 := hm8 x0 (by simp)
  have hr8 : ∀ b ∈ r, b < 256 := fun b hb => hm8 b (by simp [hb])
  have es : sealed kind ns = 167 :: (inner kind ns ++ lowN 4 (crc (inner kind ns))) := by simp [sealed]
  have hi8 := inner_lt kind ns hk h8
  have hvr : val r = val (inner kind ns ++ lowN 4 (crc (inner kind ns))) ^^^ 2 ^ p * W := by
    rw [es, val_cons_xor x0 r hx0, val_cons_xor 167 _ (by omega), Nat.pow_add, Nat.mul_assoc, show (2 : Nat) ^ 8 = 256 from rfl] at hv
    have hh : 167 ^^^ 256 * val (inner kind ns ++ lowN 4 (crc (inner kind ns))) ^^^ 256 * (2 ^ p * W) = 167 ^^^ 256 * (val (inner kind ns ++ lowN 4 (crc (inner kind ns))) ^^^ 2 ^ p * W) := by
      have := mul_xor 8 (val (inner kind ns ++ lowN 4 (crc (inner kind ns)))) (2 ^ p * W)
      rw [show (2 : Nat) ^ 8 = 256 from rfl] at this
      rw [this, Nat.xor_assoc]
    rw [hh, add_xor _ _ hx0, add_xor _ _ (by omega)] at hv
    omega
  have hb := burst (inner kind ns) (r.take (ns.length + 4)) (lowN 4 (crc (inner kind ns))) (r.drop (ns.length + 4)) hi8 (fun b hb => hr8 b (List.mem_of_mem_take hb)) (by rw [inner_len, List.length_take]; omega)
    (val_lowN 4 _ (crc_lt _)) hcrc.symm p W hW (by rw [List.take_append_drop]; exact hvr)
  subst hb
  rw [Nat.mul_zero, Nat.xor_zero] at hv
  exact val_inj _ _ hm8 hs8 (by rw [sealed_len]; exact hl) hv

end Go.Proofs.YtkjenddmkmlbeaaDoor.fm
