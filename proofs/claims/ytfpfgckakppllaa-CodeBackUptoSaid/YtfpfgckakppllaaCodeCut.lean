/- What is cut off is too short: a field's bytes without their last ones are refused as such. -/
import Derived.Test.YtfpfgckakppllaaCodeForth
namespace Go.Proofs.Ytfpfgckakppllaa.code
open Go.RowKit
open Go.Proofs.Ytfpfgckakppllaa.kit Go.Proofs.Ytfpfgckakppllaa.cm
set_option linter.unusedVariables false
set_option linter.constructorNameAsVariable false

theorem numG_none (k i x : Nat) : numG k i x [] = .error 11 := by cases k <;> rfl
theorem numG_cut : ∀ (k i x d m : Nat), (0 < i → 0 < d) → m < (numF (k + 1) d).length → numG k i x ((numF (k + 1) d).take m) = .error 11
  | k, i, x, d, 0, _, _ => by rw [List.take_zero]; exact numG_none k i x
  | 0, i, x, d, m + 1, h0, h => by
    exfalso
    rw [numF] at h
    split at h <;> simp [numF] at h
  | k + 1, i, x, d, m + 1, h0, h => by
    by_cases hd : d < 128
    · exfalso
      rw [numF, if_pos hd] at h
      simp at h
    · rw [numF, if_neg hd] at h ⊢
      rw [List.length_cons] at h
      rw [List.take_succ_cons, numG, if_neg (by omega), if_neg (by omega)]
      exact numG_cut k (i + 1) _ (d / 128) m (fun _ => by omega) (by omega)
theorem rNum_cut (y m : Nat) (h : m < (numB y).length) : rNum ((numB y).take m) = .error 11 := numG_cut 9 0 0 y m (by omega) h
theorem rCount_cut (y m : Nat) (h : m < (numB y).length) : rCount ((numB y).take m) = .error 11 := by
  unfold rCount
  rw [rNum_cut y m h]
theorem rWord_cut (y m : Nat) (h : m < 4) : rWord ((lowB y).take m) = .error 11 := by
  unfold rWord
  rw [if_pos (by rw [List.length_take]; omega)]
theorem rLong_cut (y m : Nat) (h : m < 8) : rLong ((highB y).take m) = .error 11 := by
  unfold rLong
  rw [if_pos (by rw [List.length_take]; omega)]
theorem rText_cut (l : List Nat) (m : Nat) (hl : l.length ≤ 9223372036854775807) (h : m < (numB l.length ++ l).length) : rText ((numB l.length ++ l).take m) = .error 11 := by
  unfold rText
  by_cases hm : m < (numB l.length).length
  · rw [List.take_append_of_le_length (by omega), rCount_cut _ _ hm]
  · have e : (numB l.length ++ l).take m = numB l.length ++ l.take (m - (numB l.length).length) := by
      rw [List.take_append, List.take_of_length_le (by omega)]
    rw [List.length_append] at h
    rw [e, rCount_forth _ _ hl]
    simp only
    rw [if_pos (by rw [List.length_take]; omega)]
theorem rField_cut {f : Fld} (h : f.fit = true) (ho : f.Ok) (m : Nat) (hm : m < f.bytes.length) : rField f.kind (f.bytes.take m) = .error 11 := by
  obtain ⟨_, _, h0, h1, ht⟩ := ho
  unfold maxLen at ht
  rcases fit_cases h with ⟨n, hn, rfl⟩ | ⟨n, rfl⟩ | ⟨n, hn, hx, rfl⟩ | ⟨t, rfl⟩ | ⟨b, rfl⟩ <;> simp only at h0 h1 ht <;> simp [Fld.bytes] at hm <;> simp [rField, Fld.bytes]
  · rw [rCount_cut _ _ hm, mapR]
  · rw [rNum_cut _ _ hm, mapR]
  · rw [rWord_cut _ _ (by simpa [lowB] using hm), mapR]
  · have e := txtN_length t
    rw [← e] at hm ⊢
    rw [rText_cut _ _ (by rw [e]; omega) (by rw [List.length_append]; exact hm), mapR]
  · have : m = 0 := by cases b <;> simp [flagB] at hm <;> omega
    subst this
    rfl
/-- A row cut off anywhere is too short. -/
theorem rA_cut {rd : Int → List Nat → Except Int (Fld × List Nat)} {wr : Fld → List Nat} (hb : ∀ f : Fld, f.fit = true → f.Ok → ∀ r, rd f.kind (wr f ++ r) = .ok (f, r)) (hc : ∀ f : Fld, f.fit = true → f.Ok → ∀ m, m < (wr f).length → rd f.kind ((wr f).take m) = .error 11) :
    ∀ (gs acc : List Fld) (m : Nat), (∀ g ∈ gs, g.fit = true ∧ g.Ok) → m < (gs.flatMap wr).length → rA rd acc (gs.map fun g => g.kind) ((gs.flatMap wr).take m) = .error 11
  | [], acc, m, _, h => by simp at h
  | g :: gs, acc, m, h, hm => by
    have hg := h g (List.mem_cons_self ..)
    rw [List.flatMap_cons, List.length_append] at hm
    rw [List.map_cons, List.flatMap_cons, rA]
    by_cases hl : m < (wr g).length
    · rw [List.take_append_of_le_length (by omega), hc g hg.1 hg.2 m hl]
    · rw [List.take_append, List.take_of_length_le (by omega), hb g hg.1 hg.2]
      simp only
      exact rA_cut hb hc gs (acc ++ [g]) _ (fun g' h' => h g' (List.mem_cons_of_mem _ h')) (by omega)
theorem row_cut (gs : List Fld) (h : ∀ g ∈ gs, g.fit = true ∧ g.Ok) (m : Nat) (hm : m < (gs.flatMap Fld.bytes).length) : rA rField [] (gs.map fun g => g.kind) ((gs.flatMap Fld.bytes).take m) = .error 11 :=
  rA_cut (fun f h1 h2 r => rField_forth h1 h2 r) (fun f h1 h2 m hm => rField_cut h1 h2 m hm) gs [] m h hm

end Go.Proofs.Ytfpfgckakppllaa.code
