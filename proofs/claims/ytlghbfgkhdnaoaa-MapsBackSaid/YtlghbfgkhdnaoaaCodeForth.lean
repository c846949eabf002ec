/- What is written is read: a field's bytes are read as the field, whatever stands behind; likewise the parts of keys. -/
import Derived.Test.YtlghbfgkhdnaoaaCodeBackM
namespace Go.Proofs.Ytlghbfgkhdnaoaa.code
open Go.RowKit
open Go.Proofs.Ytlghbfgkhdnaoaa.kit Go.Proofs.Ytlghbfgkhdnaoaa.cm
set_option linter.unusedVariables false
set_option linter.constructorNameAsVariable false

theorem numG_forth : ∀ (k i x d : Nat) (r : List Nat), i + k = 9 → (0 < i → 0 < d) → x + d * 128 ^ i < 18446744073709551616 → numG k i x (numF (k + 1) d ++ r) = .ok (x + d * 128 ^ i, r)
  | 0, i, x, d, r, hi, h0, hy => by
    obtain rfl : i = 9 := by omega
    have hd : d = 1 := by have := h0 (by omega); omega
    subst hd
    rfl
  | k + 1, i, x, d, r, hi, h0, hy => by
    by_cases hd : d < 128
    · rw [numF, if_pos hd, List.cons_append, List.nil_append, numG, if_neg (by intro h; have := h0 h.2; omega), if_pos hd]
    · rw [numF, if_neg hd, List.cons_append, numG, if_neg (by omega), if_neg (by omega)]
      have e : x + (d % 128 + 128 - 128) * 128 ^ i + d / 128 * 128 ^ (i + 1) = x + d * 128 ^ i := by
        rw [Nat.pow_succ, Nat.add_assoc, show d % 128 + 128 - 128 = d % 128 by omega, show d / 128 * (128 ^ i * 128) = 128 * (d / 128) * 128 ^ i by rw [Nat.mul_comm (128 ^ i) 128, ← Nat.mul_assoc, Nat.mul_comm (d / 128) 128], ← Nat.add_mul]
        rw [show d % 128 + 128 * (d / 128) = d by omega]
      rw [← e]
      exact numG_forth k (i + 1) _ (d / 128) r (by omega) (fun _ => by omega) (by rw [e]; exact hy)
theorem rNum_forth (y : Nat) (r : List Nat) (hy : y < 18446744073709551616) : rNum (numB y ++ r) = .ok (y, r) := by
  have := numG_forth 9 0 0 y r rfl (by omega) (by omega)
  rw [show 0 + y * 128 ^ 0 = y by omega] at this
  exact this
theorem rCount_forth (y : Nat) (r : List Nat) (hy : y ≤ 9223372036854775807) : rCount (numB y ++ r) = .ok (y, r) := by
  unfold rCount
  rw [rNum_forth y r (by omega)]
  simp only
  rw [if_neg (by omega)]
theorem rWord_forth (y : Nat) (r : List Nat) (hy : y ≤ 4294967295) : rWord (lowB y ++ r) = .ok (y, r) := by
  have e : rWord (lowB y ++ r) = .ok (y % 256 + 256 * (y / 256 % 256) + 65536 * (y / 65536 % 256) + 16777216 * (y / 16777216 % 256), r) := by
    unfold rWord lowB
    rw [if_neg (by simp only [List.length_append, List.length_cons, List.length_nil]; omega)]
    rfl
  rw [e, show y % 256 + 256 * (y / 256 % 256) + 65536 * (y / 65536 % 256) + 16777216 * (y / 16777216 % 256) = y by omega]
theorem fold_high : ∀ (k y x : Nat), y < 256 ^ k → (highF k y).foldl (fun x c => x * 256 + c) x = x * 256 ^ k + y
  | 0, y, x, h => by simp at h; subst h; simp [highF]
  | k + 1, y, x, h => by
    rw [highF, List.foldl_append, List.foldl_cons, List.foldl_nil, fold_high k (y / 256) x (by rw [Nat.pow_succ] at h; omega), Nat.pow_succ, Nat.add_mul, Nat.mul_assoc]
    omega
theorem rLong_forth (y : Nat) (r : List Nat) (hy : y < 18446744073709551616) : rLong (highB y ++ r) = .ok (y, r) := by
  have hl := highB_len y
  unfold rLong
  rw [if_neg (by rw [List.length_append, hl]; omega), List.take_left' hl, List.drop_left' hl, highB, fold_high 8 y 0 (by omega)]
  simp
theorem rLongW_forth (most y : Nat) (r : List Nat) (hy : y ≤ most) (hm : most < 18446744073709551616) : rLongW most (highB y ++ r) = .ok (y, r) := by
  unfold rLongW
  rw [rLong_forth y r (by omega)]
  simp only
  rw [if_neg (by omega)]
theorem rText_forth (l r : List Nat) (hl : l.length ≤ 9223372036854775807) : rText (numB l.length ++ l ++ r) = .ok (l, r) := by
  unfold rText
  rw [List.append_assoc, rCount_forth _ _ hl]
  simp only
  rw [if_neg (by rw [List.length_append]; omega), List.take_left' rfl, List.drop_left' rfl]
theorem rTruth_forth (b : Bool) (r : List Nat) : rTruth (flagB b ++ r) = .ok (b, r) := by cases b <;> rfl
theorem rKT_forth : ∀ (t acc r : List Nat), rKT acc (escN t ++ [0, 1] ++ r) = .ok (acc ++ t, r)
  | [], acc, r => by
    show rKT acc (0 :: 1 :: r) = _
    rw [rKT]; simp
  | c :: t, acc, r => by
    have ih := rKT_forth t
    by_cases hc : c = 0
    · subst hc
      have e : escN (0 :: t) ++ [0, 1] ++ r = 0 :: 255 :: (escN t ++ [0, 1] ++ r) := by simp [escN]
      rw [e, rKT]
      simp only [if_true]
      rw [if_neg (by omega), ih (acc ++ [0]) r]
      simp
    · have e : escN (c :: t) ++ [0, 1] ++ r = c :: (escN t ++ [0, 1] ++ r) := by simp [escN, hc]
      rw [e, rKT_step acc c _ hc, ih (acc ++ [c]) r]
      simp
theorem rKeyText_forth (l r : List Nat) : rKeyText (escN l ++ [0, 1] ++ r) = .ok (l, r) := by
  have := rKT_forth l [] r
  rw [List.nil_append] at this
  exact this
theorem tx_txtN (s : ByteArray) : tx (txtN s) = s := by
  obtain ⟨⟨l⟩⟩ := s
  apply ByteArray.ext
  apply Array.ext'
  unfold tx txtN
  rw [strOfNums_data, List.map_map, List.map_map]
  conv => rhs; rw [← List.map_id l]
  apply List.map_congr_left
  intro c _
  simp
theorem txtN_length (s : ByteArray) : (txtN s).length = s.size := by simp [txtN]
theorem unzig_zig (x : Int) : unzig (zig x) = x := by
  unfold zig unzig
  split <;> split <;> omega
theorem no_text {t : ByteArray} (h : t.toList = []) : t = { data := #[] } := by
  rw [Lib.toList_data] at h
  obtain ⟨⟨x⟩⟩ := t
  simp at h; subst h; rfl
theorem zig_less {x : Int} (h0 : -9223372036854775808 ≤ x) (h1 : x ≤ 9223372036854775807) : zig x < 18446744073709551616 := by
  unfold zig; split <;> omega
theorem fit_cases {f : Fld} (h : f.fit = true) : (∃ n, 0 ≤ n ∧ f = ⟨1, n, { data := #[] }, false⟩) ∨ (∃ n, f = ⟨2, n, { data := #[] }, false⟩) ∨ (∃ n, 0 ≤ n ∧ n ≤ 4294967295 ∧ f = ⟨3, n, { data := #[] }, false⟩) ∨ (∃ t, f = ⟨4, 0, t, false⟩) ∨ ∃ b, f = ⟨5, 0, { data := #[] }, b⟩ := by
  obtain ⟨k, n, t, b⟩ := f
  unfold Fld.fit at h
  simp only at h
  split at h
  · rename_i e; subst e; simp at h; obtain ⟨⟨h1, h2⟩, h3⟩ := h; rw [no_text h2, h3]; exact .inl ⟨n, h1, rfl⟩
  split at h
  · rename_i e; subst e; simp at h; obtain ⟨h2, h3⟩ := h; rw [no_text h2, h3]; exact .inr (.inl ⟨n, rfl⟩)
  split at h
  · rename_i e; subst e; simp at h; obtain ⟨⟨⟨h1, h4⟩, h2⟩, h3⟩ := h; rw [no_text h2, h3]; exact .inr (.inr (.inl ⟨n, h1, h4, rfl⟩))
  split at h
  · rename_i e; subst e; simp at h; obtain ⟨h2, h3⟩ := h; rw [h2, h3]; exact .inr (.inr (.inr (.inl ⟨t, rfl⟩)))
  split at h
  · rename_i e; subst e; simp at h; obtain ⟨h2, h3⟩ := h; rw [h2, no_text h3]; exact .inr (.inr (.inr (.inr ⟨b, rfl⟩)))
  · cases h

theorem rField_forth {f : Fld} (h : f.fit = true) (ho : f.Ok) (r : List Nat) : rField f.kind (f.bytes ++ r) = .ok (f, r) := by
  obtain ⟨_, _, h0, h1, ht⟩ := ho
  unfold maxLen at ht
  rcases fit_cases h with ⟨n, hn, rfl⟩ | ⟨n, rfl⟩ | ⟨n, hn, hm, rfl⟩ | ⟨t, rfl⟩ | ⟨b, rfl⟩ <;> simp only at h0 h1 ht
  · simp only [rField, Fld.bytes, if_true]
    rw [rCount_forth _ _ (by omega), mapR, Int.toNat_of_nonneg hn]
  · show mapR _ (rNum (numB (zig n) ++ r)) = _
    rw [rNum_forth _ _ (zig_less h0 h1), mapR, unzig_zig]
  · simp [rField, Fld.bytes]
    rw [rWord_forth _ _ (by omega), mapR, Int.toNat_of_nonneg hn]
  · show mapR _ (rText (numB t.size ++ txtN t ++ r)) = _
    rw [← txtN_length t, rText_forth _ _ (by rw [txtN_length]; omega), mapR, tx_txtN]
  · show mapR _ (rTruth (flagB b ++ r)) = _
    rw [rTruth_forth, mapR]
theorem rPart_forth {f : Fld} (h : f.fit = true) (ho : f.Ok) (r : List Nat) : rPart f.kind (f.part ++ r) = .ok (f, r) := by
  obtain ⟨_, _, h0, h1, ht⟩ := ho
  rcases fit_cases h with ⟨n, hn, rfl⟩ | ⟨n, rfl⟩ | ⟨n, hn, hm, rfl⟩ | ⟨t, rfl⟩ | ⟨b, rfl⟩ <;> simp only at h0 h1 ht
  · show mapR _ (rLongW 9223372036854775807 (highB n.toNat ++ r)) = _
    rw [rLongW_forth _ _ _ (by omega) (by omega), mapR, Int.toNat_of_nonneg hn]
  · simp [rPart, Fld.part]
    rw [rLong_forth _ _ (by omega), mapR, unsign, Int.toNat_of_nonneg (by omega), Int.add_sub_cancel]
  · show mapR _ (rLongW 4294967295 (highB n.toNat ++ r)) = _
    rw [rLongW_forth _ _ _ (by omega) (by omega), mapR, Int.toNat_of_nonneg hn]
  · show mapR _ (rKeyText (escN (txtN t) ++ [0, 1] ++ r)) = _
    rw [rKeyText_forth, mapR, tx_txtN]
  · show mapR _ (rTruth (flagB b ++ r)) = _
    rw [rTruth_forth, mapR]
theorem rA_forth {rd : Int → List Nat → Except Int (Fld × List Nat)} {wr : Fld → List Nat} (hb : ∀ f : Fld, f.fit = true → f.Ok → ∀ r, rd f.kind (wr f ++ r) = .ok (f, r)) :
    ∀ (gs acc : List Fld) (r : List Nat), (∀ g ∈ gs, g.fit = true ∧ g.Ok) → rA rd acc (gs.map fun g => g.kind) (gs.flatMap wr ++ r) = .ok (acc ++ gs, r)
  | [], acc, r, _ => by simp [rA]
  | g :: gs, acc, r, h => by
    have hg := h g (List.mem_cons_self ..)
    rw [List.map_cons, List.flatMap_cons, List.append_assoc, rA, hb g hg.1 hg.2]
    simp only
    rw [rA_forth hb gs (acc ++ [g]) r (fun g' h' => h g' (List.mem_cons_of_mem _ h'))]
    simp
/-- What is written of fit fields is read as those fields, nothing left. -/
theorem row_forth (gs : List Fld) (h : ∀ g ∈ gs, g.fit = true ∧ g.Ok) : rA rField [] (gs.map fun g => g.kind) (gs.flatMap Fld.bytes) = .ok (gs, []) := by
  have := rA_forth (rd := rField) (wr := Fld.bytes) (fun f h1 h2 r => rField_forth h1 h2 r) gs [] [] h
  simpa using this
theorem key_forth (gs : List Fld) (h : ∀ g ∈ gs, g.fit = true ∧ g.Ok) : rA rPart [] (gs.map fun g => g.kind) (gs.flatMap Fld.part) = .ok (gs, []) := by
  have := rA_forth (rd := rPart) (wr := Fld.part) (fun f h1 h2 r => rPart_forth h1 h2 r) gs [] [] h
  simpa using this

end Go.Proofs.Ytlghbfgkhdnaoaa.code
