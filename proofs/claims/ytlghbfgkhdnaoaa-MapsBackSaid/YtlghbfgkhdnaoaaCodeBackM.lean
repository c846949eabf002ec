/- What was read is written back: the bytes that a field is read from are the bytes that it is written as; likewise of parts of keys. -/
import Derived.Test.YtlghbfgkhdnaoaaCodeRPart
import Derived.Test.YtlghbfgkhdnaoaaCodeReadL
import Derived.Test.YtlghbfgkhdnaoaaCodeMath
namespace Go.Proofs.Ytlghbfgkhdnaoaa.code
open Go.RowKit
open Go.Proofs.Ytlghbfgkhdnaoaa.kit Go.Proofs.Ytlghbfgkhdnaoaa.cm
set_option linter.unusedVariables false
set_option linter.constructorNameAsVariable false

def B8 (bs : List Nat) : Prop := ∀ c ∈ bs, c < 256
theorem B8.tail {c : Nat} {bs : List Nat} (h : B8 (c :: bs)) : B8 bs := fun d hd => h d (by simp [hd])
theorem B8.head {c : Nat} {bs : List Nat} (h : B8 (c :: bs)) : c < 256 := h c (by simp)
theorem B8.right {a b : List Nat} (h : B8 (a ++ b)) : B8 b := fun d hd => h d (by simp [hd])
theorem B8.left {a b : List Nat} (h : B8 (a ++ b)) : B8 a := fun d hd => h d (by simp [hd])

theorem numG_back : ∀ (k i x : Nat) (bs : List Nat) (y : Nat) (r : List Nat), i + k = 9 → x < 128 ^ i → B8 bs → numG k i x bs = .ok (y, r) → ∃ d, y = x + d * 128 ^ i ∧ bs = numF (k + 1) d ++ r ∧ (0 < i → 0 < d)
  | 0, i, x, [], y, r, _, _, _, h => by simp [numG] at h
  | k + 1, i, x, [], y, r, _, _, _, h => by simp [numG] at h
  | 0, i, x, c :: bs, y, r, hi, hx, h8, h => by
    rw [numG] at h
    split at h
    · rename_i hc
      injection h with h
      obtain ⟨rfl, rfl⟩ := Prod.mk.inj h
      obtain rfl : i = 9 := by omega
      exact ⟨1, by omega, by rw [hc]; rfl, fun _ => by omega⟩
    · cases h
  | k + 1, i, x, c :: bs, y, r, hi, hx, h8, h => by
    rw [numG] at h
    split at h
    · cases h
    · rename_i h0
      split at h
      · rename_i hc
        injection h with h
        obtain ⟨rfl, rfl⟩ := Prod.mk.inj h
        refine ⟨c, rfl, ?_, fun hi0 => ?_⟩
        · rw [numF, if_pos hc]; rfl
        · rcases Nat.eq_zero_or_pos c with hc0 | hc0
          · exact absurd ⟨hc0, hi0⟩ h0
          · exact hc0
      · rename_i hc
        have hc8 := h8.head
        have hx2 : x + (c - 128) * 128 ^ i < 128 ^ (i + 1) := by
          rw [Nat.pow_succ]
          have h1 : (c - 128) * 128 ^ i ≤ 127 * 128 ^ i := Nat.mul_le_mul_right _ (by omega)
          omega
        obtain ⟨d, h1, h2, h3⟩ := numG_back k (i + 1) _ bs y r (by omega) hx2 h8.tail h
        have hd := h3 (by omega)
        refine ⟨(c - 128) + 128 * d, ?_, ?_, fun _ => by omega⟩
        · rw [h1, Nat.pow_succ, Nat.add_mul, Nat.mul_comm (128 ^ i) 128, ← Nat.mul_assoc, Nat.mul_comm d 128, Nat.add_assoc]
        · rw [numF, if_neg (by omega), show ((c - 128) + 128 * d) % 128 + 128 = c by omega, show ((c - 128) + 128 * d) / 128 = d by omega, h2]
          rfl
theorem rNum_back {bs : List Nat} {y : Nat} {r : List Nat} (h8 : B8 bs) (h : rNum bs = .ok (y, r)) : bs = numB y ++ r := by
  obtain ⟨d, h1, h2, _⟩ := numG_back 9 0 0 bs y r rfl (by omega) h8 h
  obtain rfl : d = y := by omega
  exact h2
theorem rCount_back {bs : List Nat} {y : Nat} {r : List Nat} (h8 : B8 bs) (h : rCount bs = .ok (y, r)) : bs = numB y ++ r ∧ y ≤ 9223372036854775807 := by
  unfold rCount at h
  split at h
  · cases h
  · rename_i x r' hx
    split at h
    · cases h
    · injection h with h
      obtain ⟨rfl, rfl⟩ := Prod.mk.inj h
      exact ⟨rNum_back h8 hx, by omega⟩
theorem rWord_back {bs : List Nat} {y : Nat} {r : List Nat} (h8 : B8 bs) (h : rWord bs = .ok (y, r)) : bs = lowB y ++ r ∧ y ≤ 4294967295 := by
  match bs, h8, h with
  | [], _, h => simp [rWord] at h
  | [a], _, h => simp [rWord] at h
  | [a, b], _, h => simp [rWord] at h
  | [a, b, c], _, h => simp [rWord] at h
  | a :: b :: c :: d :: bs, h8, h =>
    simp [rWord, List.getD] at h
    obtain ⟨rfl, rfl⟩ := h
    have ha := h8 a (by simp); have hb := h8 b (by simp); have hc := h8 c (by simp); have hd := h8 d (by simp)
    refine ⟨?_, by omega⟩
    unfold lowB
    rw [show (a + 256 * b + 65536 * c + 16777216 * d) % 256 = a by omega, show (a + 256 * b + 65536 * c + 16777216 * d) / 256 % 256 = b by omega, show (a + 256 * b + 65536 * c + 16777216 * d) / 65536 % 256 = c by omega, show (a + 256 * b + 65536 * c + 16777216 * d) / 16777216 % 256 = d by omega]
    rfl
theorem high_fold : ∀ (k : Nat) (l : List Nat), l.length = k → B8 l → ∀ x, highF k (l.foldl (fun x c => x * 256 + c) x) = l
  | 0, l, hl, _, x => by rw [List.eq_nil_of_length_eq_zero hl]; rfl
  | k + 1, l, hl, h8, x => by
    have hne : l ≠ [] := by intro e; rw [e] at hl; simp at hl
    have hc := List.dropLast_concat_getLast hne
    have h8' : B8 (l.dropLast ++ [l.getLast hne]) := by rw [hc]; exact h8
    have ih := high_fold k l.dropLast (by simp [hl]) h8'.left x
    have hlast := h8'.right (l.getLast hne) (by simp)
    conv => lhs; rw [← hc]
    rw [List.foldl_append, List.foldl_cons, List.foldl_nil, highF]
    generalize l.dropLast.foldl (fun x c => x * 256 + c) x = z at ih
    rw [show (z * 256 + l.getLast hne) / 256 = z by omega, show (z * 256 + l.getLast hne) % 256 = l.getLast hne by omega, ih, hc]
theorem rLong_back {bs : List Nat} {y : Nat} {r : List Nat} (h8 : B8 bs) (h : rLong bs = .ok (y, r)) : bs = highB y ++ r := by
  unfold rLong at h
  split at h
  · cases h
  · rename_i hl
    injection h with h
    obtain ⟨rfl, rfl⟩ := Prod.mk.inj h
    rw [highB, high_fold 8 (bs.take 8) (by rw [List.length_take]; omega) (fun c hc => h8 c (List.mem_of_mem_take hc)) 0, List.take_append_drop]
theorem rLongW_back {most : Nat} {bs : List Nat} {y : Nat} {r : List Nat} (h8 : B8 bs) (h : rLongW most bs = .ok (y, r)) : bs = highB y ++ r ∧ y ≤ most := by
  unfold rLongW at h
  split at h
  · cases h
  · rename_i x r' hx
    split at h
    · cases h
    · injection h with h
      obtain ⟨rfl, rfl⟩ := Prod.mk.inj h
      exact ⟨rLong_back h8 hx, by omega⟩
theorem txtN_tx (l : List Nat) (h8 : B8 l) : txtN (tx l) = l := by
  unfold txtN tx
  rw [strOfNums_data, List.map_map, List.map_map]
  apply List.ext_getElem
  · simp
  · intro i h1 h2
    have := h8 _ (List.getElem_mem h2)
    simp; omega
theorem tx_size (l : List Nat) : (tx l).size = l.length := by unfold tx; rw [strOfNums_size]; simp
theorem rText_back {bs l r : List Nat} (h8 : B8 bs) (h : rText bs = .ok (l, r)) : bs = numB l.length ++ l ++ r ∧ B8 l ∧ l.length ≤ bs.length := by
  unfold rText at h
  split at h
  · cases h
  · rename_i n r' hn
    obtain ⟨h1, _⟩ := rCount_back h8 hn
    split at h
    · cases h
    · rename_i hl
      injection h with h
      obtain ⟨rfl, rfl⟩ := Prod.mk.inj h
      have e : (r'.take n).length = n := by rw [List.length_take]; omega
      refine ⟨by rw [e, List.append_assoc, List.take_append_drop]; exact h1, fun c hc => h8 c ?_, ?_⟩
      · rw [h1]; exact List.mem_append_right _ (List.mem_of_mem_take hc)
      · rw [e, h1, List.length_append]; omega
theorem rTruth_back {bs : List Nat} {b : Bool} {r : List Nat} (h : rTruth bs = .ok (b, r)) : bs = flagB b ++ r := by
  match bs, h with
  | [], h => simp [rTruth] at h
  | c :: bs, h =>
    rw [rTruth] at h
    split at h
    · cases h
    · injection h with h
      obtain ⟨rfl, rfl⟩ := Prod.mk.inj h
      rcases (by omega : c = 0 ∨ c = 1) with rfl | rfl <;> rfl
theorem rKT_back (acc bs : List Nat) : ∀ (s r : List Nat), rKT acc bs = .ok (s, r) → ∃ t, s = acc ++ t ∧ bs = escN t ++ [0, 1] ++ r := by
  induction acc, bs using rKT.induct with
  | case1 acc => intro s r h; simp [rKT] at h
  | case2 acc c => intro s r h; simp [rKT] at h
  | case3 acc r' =>
    intro s r h
    rw [rKT] at h
    simp at h
    obtain ⟨rfl, rfl⟩ := h
    exact ⟨[], by simp, rfl⟩
  | case4 acc r' h1 ih =>
    intro s r h
    rw [rKT] at h
    simp at h
    obtain ⟨t, rfl, h2⟩ := ih s r h
    exact ⟨0 :: t, by simp, by rw [h2]; simp [escN]⟩
  | case5 acc d r' h1 h2 =>
    intro s r h
    rw [rKT] at h
    simp [h1, h2] at h
  | case6 acc c d r' hc ih =>
    intro s r h
    rw [rKT, if_neg hc] at h
    obtain ⟨t, rfl, h2⟩ := ih s r h
    exact ⟨c :: t, by simp, by rw [h2]; simp [escN, hc]⟩
theorem rKeyText_back {bs l r : List Nat} (h : rKeyText bs = .ok (l, r)) : bs = escN l ++ [0, 1] ++ r := by
  obtain ⟨t, h1, h2⟩ := rKT_back [] bs l r h
  rw [List.nil_append] at h1
  rw [h1]; exact h2
theorem escN_mem : ∀ (l : List Nat) (c : Nat), c ∈ l → c ∈ escN l
  | d :: l, c, h => by
    rw [escN]
    rcases List.mem_cons.1 h with rfl | h
    · apply List.mem_append_left
      split
      · rename_i e; simp [e]
      · simp
    · exact List.mem_append_right _ (escN_mem l c h)
theorem escN_ge : ∀ l, l.length ≤ (escN l).length
  | [] => by simp
  | d :: l => by
    rw [escN, List.length_append, List.length_cons]
    have := escN_ge l
    split <;> simp <;> omega

theorem zig_unzig (x : Nat) : zig (unzig x) = x := by
  unfold zig unzig
  split <;> split <;> omega

theorem mapR_ok {α : Type} {g : α → Fld} {R : Except Int (α × List Nat)} {f : Fld} {r : List Nat} (h : mapR g R = .ok (f, r)) : ∃ x, R = .ok (x, r) ∧ f = g x := by
  cases R with
  | error e => simp [mapR] at h
  | ok p =>
    obtain ⟨x, r'⟩ := p
    rw [mapR] at h
    injection h with h
    obtain ⟨rfl, rfl⟩ := Prod.mk.inj h
    exact ⟨x, rfl, rfl⟩

/-- What is known of a field that was read. -/
def Good (n : Nat) (f : Fld) : Prop := f.fit = true ∧ f.Ok ∧ f.text.size ≤ n

theorem rField_back {k : Int} {bs : List Nat} {f : Fld} {r : List Nat} (h8 : B8 bs) (hl : bs.length ≤ 1048576) (h : rField k bs = .ok (f, r)) : bs = f.bytes ++ r ∧ Good bs.length f := by
  have ht0 : (({ data := #[] } : ByteArray)).size ≤ maxLen := by simp [maxLen, ByteArray.size]
  unfold rField at h
  split at h
  · rename_i hk
    obtain ⟨x, hx, rfl⟩ := mapR_ok h
    obtain ⟨h1, h2⟩ := rCount_back h8 hx
    subst hk
    refine ⟨by rw [h1]; simp [Fld.bytes], by simp [Fld.fit], ⟨by simp, by simp, by first | (simp; done) | (simp; omega), by first | (simp; done) | (simp; omega), ht0⟩, by simp [ByteArray.size]⟩
  split at h
  · rename_i hk
    obtain ⟨x, hx, rfl⟩ := mapR_ok h
    have h1 := rNum_back h8 hx
    have h2 := numG_lt 9 0 0 bs x r rfl (by omega) h8 hx
    subst hk
    refine ⟨by rw [h1]; simp [Fld.bytes, zig_unzig], by simp [Fld.fit], ⟨by simp, by simp, ?_, ?_, ht0⟩, by simp [ByteArray.size]⟩
    · simp only [unzig]; split <;> omega
    · simp only [unzig]; split <;> omega
  split at h
  · rename_i hk
    obtain ⟨x, hx, rfl⟩ := mapR_ok h
    obtain ⟨h1, h2⟩ := rWord_back h8 hx
    subst hk
    refine ⟨by rw [h1]; simp [Fld.bytes], ?_, ⟨by simp, by simp, by first | (simp; done) | (simp; omega), by first | (simp; done) | (simp; omega), ht0⟩, by simp [ByteArray.size]⟩
    simp [Fld.fit]; omega
  split at h
  · rename_i hk
    obtain ⟨x, hx, rfl⟩ := mapR_ok h
    obtain ⟨h1, h2, h3⟩ := rText_back h8 hx
    subst hk
    refine ⟨by simp only [Fld.bytes]; simp [tx_size, txtN_tx x h2]; rw [← List.append_assoc]; exact h1, by simp [Fld.fit], ⟨by simp, by simp, by simp, by simp, by simp only [tx_size]; unfold maxLen; omega⟩, by simp only [tx_size]; exact h3⟩
  split at h
  · rename_i hk
    obtain ⟨x, hx, rfl⟩ := mapR_ok h
    have h1 := rTruth_back hx
    subst hk
    exact ⟨by rw [h1]; simp [Fld.bytes], by simp [Fld.fit], ⟨by simp, by simp, by simp, by simp, ht0⟩, by simp [ByteArray.size]⟩
  · cases h

theorem rPart_back {k : Int} {bs : List Nat} {f : Fld} {r : List Nat} (h8 : B8 bs) (hl : bs.length ≤ 1048576) (h : rPart k bs = .ok (f, r)) : bs = f.part ++ r ∧ Good bs.length f := by
  have ht0 : (({ data := #[] } : ByteArray)).size ≤ maxLen := by simp [maxLen, ByteArray.size]
  unfold rPart at h
  split at h
  · rename_i hk
    obtain ⟨x, hx, rfl⟩ := mapR_ok h
    obtain ⟨h1, h2⟩ := rLongW_back h8 hx
    subst hk
    refine ⟨by rw [h1]; simp [Fld.part], by simp [Fld.fit], ⟨by simp, by simp, by first | (simp; done) | (simp; omega), by first | (simp; done) | (simp; omega), ht0⟩, by simp [ByteArray.size]⟩
  split at h
  · rename_i hk
    obtain ⟨x, hx, rfl⟩ := mapR_ok h
    have h1 := rLong_back h8 hx
    have h2 := rLong_lt h8 hx
    subst hk
    refine ⟨by rw [h1]; simp [Fld.part, unsign], by simp [Fld.fit], ⟨by simp, by simp, ?_, ?_, ht0⟩, by simp [ByteArray.size]⟩
    · simp only [unsign]; omega
    · simp only [unsign]; omega
  split at h
  · rename_i hk
    obtain ⟨x, hx, rfl⟩ := mapR_ok h
    obtain ⟨h1, h2⟩ := rLongW_back h8 hx
    subst hk
    refine ⟨by rw [h1]; simp [Fld.part], ?_, ⟨by simp, by simp, by first | (simp; done) | (simp; omega), by first | (simp; done) | (simp; omega), ht0⟩, by simp [ByteArray.size]⟩
    simp [Fld.fit]; omega
  split at h
  · rename_i hk
    obtain ⟨x, hx, rfl⟩ := mapR_ok h
    have h1 := rKeyText_back hx
    subst hk
    have h2 : B8 x := fun c hc => h8 c (by rw [h1]; exact List.mem_append_left _ (List.mem_append_left _ (escN_mem x c hc)))
    have h3 : x.length ≤ bs.length := by rw [h1, List.length_append, List.length_append]; have := escN_ge x; omega
    refine ⟨by simp only [Fld.part]; simp [txtN_tx x h2]; simpa using h1, by simp [Fld.fit], ⟨by simp, by simp, by simp, by simp, by simp only [tx_size]; unfold maxLen; omega⟩, by simp only [tx_size]; exact h3⟩
  split at h
  · rename_i hk
    obtain ⟨x, hx, rfl⟩ := mapR_ok h
    have h1 := rTruth_back hx
    subst hk
    exact ⟨by rw [h1]; simp [Fld.part], by simp [Fld.fit], ⟨by simp, by simp, by simp, by simp, ht0⟩, by simp [ByteArray.size]⟩
  · cases h

/-- A row that was read is the row that was written. -/
theorem rA_back {rd : Int → List Nat → Except Int (Fld × List Nat)} {wr : Fld → List Nat} (hb : ∀ k bs f r, B8 bs → bs.length ≤ 1048576 → rd k bs = .ok (f, r) → bs = wr f ++ r ∧ Good bs.length f) :
    ∀ (ks : List Int) (acc : List Fld) (bs : List Nat) (fs : List Fld) (rr : List Nat), B8 bs → bs.length ≤ 1048576 → rA rd acc ks bs = .ok (fs, rr) → ∃ gs, fs = acc ++ gs ∧ bs = gs.flatMap wr ++ rr ∧ ∀ g ∈ gs, Good 1048576 g
  | [], acc, bs, fs, rr, _, _, h => by
    rw [rA] at h
    injection h with h
    obtain ⟨rfl, rfl⟩ := Prod.mk.inj h
    exact ⟨[], by simp, by simp, by simp⟩
  | k :: ks, acc, bs, fs, rr, h8, hl, h => by
    rw [rA] at h
    split at h
    · cases h
    · rename_i f r hf
      obtain ⟨h1, h2⟩ := hb k bs f r h8 hl hf
      have h8' : B8 r := by rw [h1] at h8; exact h8.right
      have hl' : r.length ≤ 1048576 := by rw [h1, List.length_append] at hl; omega
      obtain ⟨gs, rfl, h3, h4⟩ := rA_back hb ks (acc ++ [f]) r fs rr h8' hl' h
      refine ⟨f :: gs, by simp, by rw [List.flatMap_cons, List.append_assoc, ← h3]; exact h1, fun g hg => ?_⟩
      rcases List.mem_cons.1 hg with rfl | hg
      · exact ⟨h2.1, h2.2.1, Nat.le_trans h2.2.2 hl⟩
      · exact h4 g hg

end Go.Proofs.Ytlghbfgkhdnaoaa.code
