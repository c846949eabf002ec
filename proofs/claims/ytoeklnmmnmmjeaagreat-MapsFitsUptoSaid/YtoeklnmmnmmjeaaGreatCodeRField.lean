/- The reader takes a field of a kind. -/
import Derived.Test.YtoeklnmmnmmjeaaGreatRows
import Derived.Test.YtoeklnmmnmmjeaaGreatCodeRead2
import Derived.Test.YtoeklnmmnmmjeaaGreatCodePick
namespace Go.Proofs.YtoeklnmmnmmjeaaGreat.code
open Go.RowKit
open Go.Proofs.YtoeklnmmnmmjeaaGreat.kit Go.Proofs.YtoeklnmmnmmjeaaGreat.cm
set_option linter.unusedVariables false

def mapR {α : Type} (f : α → Fld) : Except Int (α × List Nat) → Except Int (Fld × List Nat)
  | .ok (x, r) => .ok (f x, r)
  | .error e => .error e
def noF (kind : Int) : Fld := ⟨kind, 0, { data := #[] }, false⟩
def rField (kind : Int) (bs : List Nat) : Except Int (Fld × List Nat) :=
  if kind = 1 then mapR (fun x : Nat => ⟨kind, (x : Int), { data := #[] }, false⟩) (rCount bs)
  else if kind = 2 then mapR (fun x => ⟨kind, unzig x, { data := #[] }, false⟩) (rNum bs)
  else if kind = 3 then mapR (fun x : Nat => ⟨kind, (x : Int), { data := #[] }, false⟩) (rWord bs)
  else if kind = 4 then mapR (fun l => ⟨kind, 0, tx l, false⟩) (rText bs)
  else if kind = 5 then mapR (fun b => ⟨kind, 0, { data := #[] }, b⟩) (rTruth bs)
  else .error 27

theorem Rest.far {L : Nat} {W W' : World} {rb k : Nat} {bs : List Nat} (h : Rest L W rb bs) (hg : W.grownBy W' (some k)) (hL : L ≤ k) (hk : rb ≠ k) : Rest L W' rb bs := by
  obtain ⟨h8, v, hv, hs⟩ := h
  refine ⟨h8, v, (hg.block rb (box_lt hv) (fun e => hk (by simpa using e))).trans hv, hs.keep hg (fun b hb e => ?_)⟩
  have e' : b = k := by simpa using e
  have := hb.2
  omega

theorem grownBy_setCells (W : World) (b : Nat) : ∀ (vs : List Value) (o : Nat), W.grownBy (W.setCells b o vs) (some b) := by
  intro vs o
  have : ∀ (vs : List Value) (o : Nat) (A : World), W.grownBy A (some b) → W.grownBy (A.setCells b o vs) (some b) := by
    intro vs
    induction vs with
    | nil => intro o A h; exact h
    | cons v r ih => intro o A h; exact ih _ _ (Lib.grownBy_trans h (Lib.grownBy_setCell A b o v))
  exact this vs o W (World.grownBy.refl _ _)

/-- The cells of a field's box. -/
theorem fbox {W : World} {b : Nat} {a0 a1 a2 a3 : Value} (h : W.heap[b]? = some (.cells #[a0, a1, a2, a3] 86 (0, 0))) :
    W.cell? ⟨b, 0, none⟩ = some a0 ∧ W.cell? ⟨b, 1, none⟩ = some a1 ∧ W.cell? ⟨b, 2, none⟩ = some a2 ∧ W.cell? ⟨b, 3, none⟩ = some a3 := by
  refine ⟨?_, ?_, ?_, ?_⟩ <;> simp [World.cell?, h]
theorem fbox_frozen {W : World} {b : Nat} {a0 a1 a2 a3 : Value} (h : W.heap[b]? = some (.cells #[a0, a1, a2, a3] 86 (0, 0))) (i : Nat) : W.frozen? ⟨b, i, none⟩ = false := by
  simp [World.frozen?, h]
theorem fbox_there {W : World} {b : Nat} {a0 a1 a2 a3 : Value} (h : W.heap[b]? = some (.cells #[a0, a1, a2, a3] 86 (0, 0))) : W.there b 0 4 := by
  intro j hj
  obtain ⟨h0, h1, h2, h3⟩ := fbox h
  refine ⟨?_, fbox_frozen h _⟩
  match j, hj with
  | 0, _ => simpa using by rw [h0]; rfl
  | 1, _ => simpa using by rw [h1]; rfl
  | 2, _ => simpa using by rw [h2]; rfl
  | 3, _ => simpa using by rw [h3]; rfl

/-- Two boxes of fields are laid: the answer's, and the field's own, of a kind. -/
structure Two (L : Nat) (W : World) (rb : Nat) (kind : Int) (bs : List Nat) (W2 : World) : Prop where
  R : W2.heap[W.heap.size]? = some (.cells #[.int .i64 0, .int .i64 0, .string { data := #[] }, .bool false] 86 (0, 0))
  F : W2.heap[W.heap.size + 1]? = some (.cells #[.int .i64 kind, .int .i64 0, .string { data := #[] }, .bool false] 86 (0, 0))
  rest : Rest L W2 rb bs
  below : Below W.heap.size W W2
  size : W2.heap.size = W.heap.size + 2
  rlt : rb < W.heap.size
  L : L ≤ W.heap.size

theorem two_of {L : Nat} {W : World} {rb : Nat} (kind : Int) {bs : List Nat} (h : Rest L W rb bs) (hL : L ≤ W.heap.size) :
    Two L W rb kind bs ((W.alloc (.cells #[.int .i64 0, .int .i64 0, .string { data := #[] }, .bool false] 86)).alloc (.cells #[.int .i64 kind, .int .i64 0, .string { data := #[] }, .bool false] 86)) := by
  have hb : Below W.heap.size W ((W.alloc (.cells #[.int .i64 0, .int .i64 0, .string { data := #[] }, .bool false] 86)).alloc (.cells #[.int .i64 kind, .int .i64 0, .string { data := #[] }, .bool false] 86)) := ((Below.refl _ W).alloc (Nat.le_refl _) _).alloc (by simp) _
  refine ⟨?_, ?_, h.grow hb, hb, by simp, ?_, hL⟩
  · simp only [alloc_heap, Array.getElem?_push, Array.size_push]; simp
  · simp only [alloc_heap, Array.getElem?_push, Array.size_push]; simp
  · obtain ⟨_, v, hv, _⟩ := h; exact box_lt hv

theorem there_set {W : World} {b k : Nat} {a0 a1 a2 a3 : Value} (h : W.heap[b]? = some (.cells #[a0, a1, a2, a3] 86 (0, 0))) (hk : b ≠ k) (o : Nat) (u : Value) : (W.setCell ⟨k, o, none⟩ u).there b 0 4 :=
  fbox_there ((Below.heap_setCell W ⟨k, o, none⟩ u b hk).trans h)

theorem field_end {L : Nat} {W : World} {rb : Nat} {kind : Int} {bs : List Nat} {W2 W3 : World} (HT : Two L W rb kind bs W2) (hg : W2.grownBy W3 (some rb)) (o : Nat) (u : Value) (f : Fld) (er : Int) (R' : Except Int (Fld × List Nat))
    (hr : (∃ r, R' = .ok (f, r) ∧ er = 0 ∧ Rest L W3 rb r) ∨ (R' = .error er ∧ f = noF kind ∧ er ≠ 0)) (cs : List Value) :
    RdP L Fld.val (noF kind) W rb R' (.returned (.tuple #[f.val, .int .i64 er])) ((W3.setCell ⟨W.heap.size + 1, o, none⟩ u).setCells W.heap.size 0 cs) := by
  have hs := HT.size
  have hrl := HT.rlt
  have hL := HT.L
  have g0 : W.grownBy W2 (some rb) := ⟨HT.below.os, HT.below.tape, HT.below.output, HT.below.size, fun k hk _ => HT.below.block k hk⟩
  have g2 : W3.grownBy (W3.setCell ⟨W.heap.size + 1, o, none⟩ u) (some (W.heap.size + 1)) := Lib.grownBy_setCell W3 _ o u
  have g3 := grownBy_setCells (W3.setCell ⟨W.heap.size + 1, o, none⟩ u) W.heap.size cs 0
  have gA : W.grownBy W3 (some rb) := Lib.grownBy_trans g0 hg
  have gB := gA.andThen g2 (fun j e => .inl (by have : W.heap.size + 1 = j := by simpa using e
                                                omega))
  have gC := gB.andThen g3 (fun j e => .inl (by have : W.heap.size = j := by simpa using e
                                                omega))
  rcases hr with ⟨r, hR, h0, hrest⟩ | ⟨hR, hf, h0⟩
  · rw [hR, h0]
    exact ⟨rfl, (hrest.far g2 (by omega) (by omega)).far g3 hL (by omega), gC⟩
  · rw [hR, hf]
    exact ⟨rfl, h0, gC⟩

theorem field_none {L : Nat} {W : World} {rb : Nat} {kind : Int} {bs : List Nat} {W2 : World} (HT : Two L W rb kind bs W2) (cs : List Value) :
    RdP L Fld.val (noF kind) W rb (.error 27) (.returned (.tuple #[(noF kind).val, .int .i64 27])) (W2.setCells W.heap.size 0 cs) := by
  have hs := HT.size
  have g0 : W.grownBy W2 (some rb) := ⟨HT.below.os, HT.below.tape, HT.below.output, HT.below.size, fun k hk _ => HT.below.block k hk⟩
  have g3 := grownBy_setCells W2 W.heap.size cs 0
  exact ⟨rfl, by decide, g0.andThen g3 (fun j e => .inl (by have : W.heap.size = j := by simpa using e
                                                            omega))⟩

theorem numG_lt : ∀ (k i x : Nat) (bs : List Nat) (y : Nat) (r : List Nat), i + k = 9 → x < 128 ^ i → (∀ c ∈ bs, c < 256) → numG k i x bs = .ok (y, r) → y < 18446744073709551616
  | k, _, _, [], _, _, _, _, _, h => by cases k <;> simp [numG] at h
  | 0, i, x, c :: bs, y, r, hi, hx, hb, h => by
    have hi9 : i = 9 := by omega
    subst hi9
    rw [numG] at h
    split at h
    · cases h
      have : (128 : Nat) ^ 9 = 9223372036854775808 := by decide
      omega
    · cases h
  | k + 1, i, x, c :: bs, y, r, hi, hx, hb, h => by
    have hp : (128 : Nat) ^ (i + 1) ≤ 128 ^ 9 := Nat.pow_le_pow_right (by omega) (by omega)
    have h9 : (128 : Nat) ^ 9 = 9223372036854775808 := by decide
    have hc := hb c (List.mem_cons_self ..)
    rw [numG] at h
    split at h
    · cases h
    · split at h
      · rename_i hlt
        cases h
        have h3 : c * 128 ^ i ≤ 127 * 128 ^ i := Nat.mul_le_mul_right _ (by omega)
        rw [Nat.pow_succ] at hp
        omega
      · have h3 : (c - 128) * 128 ^ i ≤ 127 * 128 ^ i := Nat.mul_le_mul_right _ (by omega)
        exact numG_lt k (i + 1) _ bs y r (by omega) (by rw [Nat.pow_succ]; omega) (fun d hd => hb d (List.mem_cons_of_mem _ hd)) h
theorem rNum_bound {L : Nat} {bs : List Nat} {y : Nat} {er : Int} {W3 : World} {rb : Nat} (h8 : ∀ c ∈ bs, c < 256) (h : (∃ r, rNum bs = .ok (y, r) ∧ er = 0 ∧ Rest L W3 rb r) ∨ (rNum bs = .error er ∧ y = 0 ∧ er ≠ 0)) : y < 18446744073709551616 := by
  rcases h with ⟨r, h, _⟩ | ⟨_, rfl, _⟩
  · exact numG_lt 9 0 0 bs y r rfl (by omega) h8 h
  · omega

set_option maxHeartbeats 4000000 in
set_option maxRecDepth 100000 in
theorem field_any {L : Nat} (rb : Nat) (kind : Int) (bs : List Nat) (W : World) (h : Rest L W rb bs) (hL : L ≤ W.heap.size) :
    Calls Tryz.prog 143 #[.pointer (some ⟨rb, 0, none⟩), .int .i64 kind] W (RdP L Fld.val (noF kind) W rb (rField kind bs)) := by
  have HT := Lib.hid (two_of kind h hL)
  have H8 := Lib.hid h.1
  clear h hL
  go_enter Tryz.func143, Tryz.ntmps143
  go_upto_region 2 with fail
  generalize ((W.alloc (.cells #[.int .i64 0, .int .i64 0, .string { data := #[] }, .bool false] 86)).alloc (.cells #[.int .i64 kind, .int .i64 0, .string { data := #[] }, .bool false] 86)) = W2 at HT ⊢
  by_cases h1 : kind = 1
  · subst h1
    have H := Lib.hid (count_any rb bs W2 HT.out.rest)
    go_wp2_with (first
      | (go_at_call 183; refine H.out.mono ?_; intro e W3 hp; obtain ⟨y, er, rfl, hg, hr⟩ := hp.any; have hF3 := (hg.block (W.heap.size + 1) (by have := HT.out.size; omega) (by have := HT.out.rlt; simp; omega)).trans HT.out.F; have hR3 := (hg.block W.heap.size (by have := HT.out.size; omega) (by have := HT.out.rlt; simp; omega)).trans HT.out.R; have HG := Lib.hid hg; have HR := Lib.hid hr; have HF3 := Lib.hid hF3; have HR3 := Lib.hid hR3; obtain ⟨q0, q1, q2, q3⟩ := fbox hF3; have z1 := fbox_frozen hF3 1; have hT4 := there_set hR3 (show W.heap.size ≠ W.heap.size + 1 by omega) 1 (.int .i64 (y : Int)); clear hg hr hF3 hR3 hp)
      | (refine wpList_store_mid rfl 86 _ _ rfl W.heap.size 0 #[.int .i64 1, .int .i64 (y : Int), .string { data := #[] }, .bool false] rfl rfl hT4 infoF (cells4_one _ _ _ _) ?_))
    refine bodyPost_ret (by exact ret_cell_tmp (cs := [.int .i64 1, .int .i64 (y : Int), .string { data := #[] }, .bool false]) rfl rfl (World.rangeAt_setCells_same _ _ _ _ hT4) Tryz.underlying86 rfl infoF) rfl ?_
    refine field_end HT.out HG.out 1 _ ⟨1, (y : Int), { data := #[] }, false⟩ er (rField 1 bs) ?_ _
    rcases HR.out with ⟨r, hR, h0, hrest⟩ | ⟨hR, hy, h0⟩
    · exact .inl ⟨r, by rw [rField]; rw [if_pos rfl, hR]; rfl, h0, hrest⟩
    · exact .inr ⟨by rw [rField]; rw [if_pos rfl, hR]; rfl, by rw [hy]; rfl, h0⟩
  by_cases h2 : kind = 2
  · subst h2
    have H := Lib.hid (number_any rb bs W2 HT.out.rest)
    go_wp2_with (first
      | (go_at_call 184; refine H.out.mono ?_; intro e W3 hp; obtain ⟨y, er, rfl, hg, hr⟩ := hp.any; have hF3 := (hg.block (W.heap.size + 1) (by have := HT.out.size; omega) (by have := HT.out.rlt; simp; omega)).trans HT.out.F; have hR3 := (hg.block W.heap.size (by have := HT.out.size; omega) (by have := HT.out.rlt; simp; omega)).trans HT.out.R; have HG := Lib.hid hg; have HR := Lib.hid hr; have HF3 := Lib.hid hF3; have HR3 := Lib.hid hR3; obtain ⟨q0, q1, q2, q3⟩ := fbox hF3; have z1 := fbox_frozen hF3 1; have hT4 := there_set hR3 (show W.heap.size ≠ W.heap.size + 1 by omega) 1 (.int .i64 (unzig y)); have HB := Lib.hid (rNum_bound H8.out hr); clear hg hr hF3 hR3 hp)
      | (go_at_call 185; refine (unfold_any y HB.out W3).mono ?_; rintro e w' ⟨rfl, rfl⟩)
      | (refine wpList_store_mid rfl 86 _ _ rfl W.heap.size 0 #[.int .i64 2, .int .i64 (unzig y), .string { data := #[] }, .bool false] rfl rfl hT4 infoF (cells4_one _ _ _ _) ?_))
    refine bodyPost_ret (by exact ret_cell_tmp (cs := [.int .i64 2, .int .i64 (unzig y), .string { data := #[] }, .bool false]) rfl rfl (World.rangeAt_setCells_same _ _ _ _ hT4) Tryz.underlying86 rfl infoF) rfl ?_
    refine field_end HT.out HG.out 1 _ ⟨2, unzig y, { data := #[] }, false⟩ er (rField 2 bs) ?_ _
    rcases HR.out with ⟨r, hR, h0, hrest⟩ | ⟨hR, hy, h0⟩
    · exact .inl ⟨r, by rw [rField]; rw [if_neg (show ¬ (2 : Int) = 1 by decide)]; rw [if_pos rfl, hR]; rfl, h0, hrest⟩
    · exact .inr ⟨by rw [rField]; rw [if_neg (show ¬ (2 : Int) = 1 by decide)]; rw [if_pos rfl, hR]; rfl, by rw [hy]; rfl, h0⟩
  by_cases h3 : kind = 3
  · subst h3
    have H := Lib.hid (word_any rb bs W2 HT.out.rest)
    go_wp2_with (first
      | (go_at_call 186; refine H.out.mono ?_; intro e W3 hp; obtain ⟨y, er, rfl, hg, hr⟩ := hp.any; have hF3 := (hg.block (W.heap.size + 1) (by have := HT.out.size; omega) (by have := HT.out.rlt; simp; omega)).trans HT.out.F; have hR3 := (hg.block W.heap.size (by have := HT.out.size; omega) (by have := HT.out.rlt; simp; omega)).trans HT.out.R; have HG := Lib.hid hg; have HR := Lib.hid hr; have HF3 := Lib.hid hF3; have HR3 := Lib.hid hR3; obtain ⟨q0, q1, q2, q3⟩ := fbox hF3; have z1 := fbox_frozen hF3 1; have hT4 := there_set hR3 (show W.heap.size ≠ W.heap.size + 1 by omega) 1 (.int .i64 (y : Int)); clear hg hr hF3 hR3 hp)
      | (refine wpList_store_mid rfl 86 _ _ rfl W.heap.size 0 #[.int .i64 3, .int .i64 (y : Int), .string { data := #[] }, .bool false] rfl rfl hT4 infoF (cells4_one _ _ _ _) ?_))
    refine bodyPost_ret (by exact ret_cell_tmp (cs := [.int .i64 3, .int .i64 (y : Int), .string { data := #[] }, .bool false]) rfl rfl (World.rangeAt_setCells_same _ _ _ _ hT4) Tryz.underlying86 rfl infoF) rfl ?_
    refine field_end HT.out HG.out 1 _ ⟨3, (y : Int), { data := #[] }, false⟩ er (rField 3 bs) ?_ _
    rcases HR.out with ⟨r, hR, h0, hrest⟩ | ⟨hR, hy, h0⟩
    · exact .inl ⟨r, by rw [rField]; rw [if_neg (show ¬ (3 : Int) = 1 by decide)]; rw [if_neg (show ¬ (3 : Int) = 2 by decide)]; rw [if_pos rfl, hR]; rfl, h0, hrest⟩
    · exact .inr ⟨by rw [rField]; rw [if_neg (show ¬ (3 : Int) = 1 by decide)]; rw [if_neg (show ¬ (3 : Int) = 2 by decide)]; rw [if_pos rfl, hR]; rfl, by rw [hy]; rfl, h0⟩
  by_cases h4 : kind = 4
  · subst h4
    have H := Lib.hid (text_any rb bs W2 HT.out.rest)
    go_wp2_with (first
      | (go_at_call 187; refine H.out.mono ?_; intro e W3 hp; obtain ⟨y, er, rfl, hg, hr⟩ := hp.any; have hF3 := (hg.block (W.heap.size + 1) (by have := HT.out.size; omega) (by have := HT.out.rlt; simp; omega)).trans HT.out.F; have hR3 := (hg.block W.heap.size (by have := HT.out.size; omega) (by have := HT.out.rlt; simp; omega)).trans HT.out.R; have HG := Lib.hid hg; have HR := Lib.hid hr; have HF3 := Lib.hid hF3; have HR3 := Lib.hid hR3; obtain ⟨q0, q1, q2, q3⟩ := fbox hF3; have z1 := fbox_frozen hF3 2; have hT4 := there_set hR3 (show W.heap.size ≠ W.heap.size + 1 by omega) 2 (.string (tx y)); clear hg hr hF3 hR3 hp)
      | (refine wpList_store_mid rfl 86 _ _ rfl W.heap.size 0 #[.int .i64 4, .int .i64 0, .string (tx y), .bool false] rfl rfl hT4 infoF (cells4_one _ _ _ _) ?_))
    refine bodyPost_ret (by exact ret_cell_tmp (cs := [.int .i64 4, .int .i64 0, .string (tx y), .bool false]) rfl rfl (World.rangeAt_setCells_same _ _ _ _ hT4) Tryz.underlying86 rfl infoF) rfl ?_
    refine field_end HT.out HG.out 2 _ ⟨4, 0, tx y, false⟩ er (rField 4 bs) ?_ _
    rcases HR.out with ⟨r, hR, h0, hrest⟩ | ⟨hR, hy, h0⟩
    · exact .inl ⟨r, by rw [rField]; rw [if_neg (show ¬ (4 : Int) = 1 by decide)]; rw [if_neg (show ¬ (4 : Int) = 2 by decide)]; rw [if_neg (show ¬ (4 : Int) = 3 by decide)]; rw [if_pos rfl, hR]; rfl, h0, hrest⟩
    · exact .inr ⟨by rw [rField]; rw [if_neg (show ¬ (4 : Int) = 1 by decide)]; rw [if_neg (show ¬ (4 : Int) = 2 by decide)]; rw [if_neg (show ¬ (4 : Int) = 3 by decide)]; rw [if_pos rfl, hR]; rfl, by rw [hy]; rfl, h0⟩
  by_cases h5 : kind = 5
  · subst h5
    have H := Lib.hid (truth_any rb bs W2 HT.out.rest)
    go_wp2_with (first
      | (go_at_call 188; refine H.out.mono ?_; intro e W3 hp; obtain ⟨y, er, rfl, hg, hr⟩ := hp.any; have hF3 := (hg.block (W.heap.size + 1) (by have := HT.out.size; omega) (by have := HT.out.rlt; simp; omega)).trans HT.out.F; have hR3 := (hg.block W.heap.size (by have := HT.out.size; omega) (by have := HT.out.rlt; simp; omega)).trans HT.out.R; have HG := Lib.hid hg; have HR := Lib.hid hr; have HF3 := Lib.hid hF3; have HR3 := Lib.hid hR3; obtain ⟨q0, q1, q2, q3⟩ := fbox hF3; have z1 := fbox_frozen hF3 3; have hT4 := there_set hR3 (show W.heap.size ≠ W.heap.size + 1 by omega) 3 (.bool y); clear hg hr hF3 hR3 hp)
      | (refine wpList_store_mid rfl 86 _ _ rfl W.heap.size 0 #[.int .i64 5, .int .i64 0, .string { data := #[] }, .bool y] rfl rfl hT4 infoF (cells4_one _ _ _ _) ?_))
    refine bodyPost_ret (by exact ret_cell_tmp (cs := [.int .i64 5, .int .i64 0, .string { data := #[] }, .bool y]) rfl rfl (World.rangeAt_setCells_same _ _ _ _ hT4) Tryz.underlying86 rfl infoF) rfl ?_
    refine field_end HT.out HG.out 3 _ ⟨5, 0, { data := #[] }, y⟩ er (rField 5 bs) ?_ _
    rcases HR.out with ⟨r, hR, h0, hrest⟩ | ⟨hR, hy, h0⟩
    · exact .inl ⟨r, by rw [rField]; rw [if_neg (show ¬ (5 : Int) = 1 by decide)]; rw [if_neg (show ¬ (5 : Int) = 2 by decide)]; rw [if_neg (show ¬ (5 : Int) = 3 by decide)]; rw [if_neg (show ¬ (5 : Int) = 4 by decide)]; rw [if_pos rfl, hR]; rfl, h0, hrest⟩
    · exact .inr ⟨by rw [rField]; rw [if_neg (show ¬ (5 : Int) = 1 by decide)]; rw [if_neg (show ¬ (5 : Int) = 2 by decide)]; rw [if_neg (show ¬ (5 : Int) = 3 by decide)]; rw [if_neg (show ¬ (5 : Int) = 4 by decide)]; rw [if_pos rfl, hR]; rfl, by rw [hy]; rfl, h0⟩
  obtain ⟨q0, q1, q2, q3⟩ := fbox HT.out.F
  have hT4 := fbox_there HT.out.R
  have b1 : True → (kind == 1) = false := fun _ => by simpa using h1
  have b2 : True → (kind == 2) = false := fun _ => by simpa using h2
  have b3 : True → (kind == 3) = false := fun _ => by simpa using h3
  have b4 : True → (kind == 4) = false := fun _ => by simpa using h4
  have b5 : True → (kind == 5) = false := fun _ => by simpa using h5
  have HE := Lib.hid (show rField kind bs = .error 27 by rw [rField, if_neg h1, if_neg h2, if_neg h3, if_neg h4, if_neg h5])
  clear h1 h2 h3 h4 h5
  go_wp2_with (refine wpList_store_mid rfl 86 _ _ rfl W.heap.size 0 #[.int .i64 kind, .int .i64 0, .string { data := #[] }, .bool false] rfl rfl hT4 infoF (cells4_one _ _ _ _) ?_)
  refine bodyPost_ret (by exact ret_cell_tmp (cs := [.int .i64 kind, .int .i64 0, .string { data := #[] }, .bool false]) rfl rfl (World.rangeAt_setCells_same _ _ _ _ hT4) Tryz.underlying86 rfl infoF) rfl ?_
  rw [HE.out]
  exact field_none HT.out _


end Go.Proofs.YtoeklnmmnmmjeaaGreat.code
