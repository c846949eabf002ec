/- The reader takes a part of a key of a kind. -/
import Derived.Test.YtfpfgckakppllaaRows
import Derived.Test.YtfpfgckakppllaaCodeKeyText
namespace Go.Proofs.Ytfpfgckakppllaa.code
open Go.RowKit
open Go.Proofs.Ytfpfgckakppllaa.kit Go.Proofs.Ytfpfgckakppllaa.cm
set_option linter.unusedVariables false

def unsign (x : Nat) : Int := (x : Int) - 9223372036854775808
/-- What a part is handed out as where it can't be taken. -/
def zP (kind : Int) : Fld := if kind = 2 then ⟨2, -9223372036854775808, { data := #[] }, false⟩ else noF kind
def rPart (kind : Int) (bs : List Nat) : Except Int (Fld × List Nat) :=
  if kind = 1 then mapR (fun x : Nat => ⟨kind, (x : Int), { data := #[] }, false⟩) (rLongW 9223372036854775807 bs)
  else if kind = 2 then mapR (fun x => ⟨kind, unsign x, { data := #[] }, false⟩) (rLong bs)
  else if kind = 3 then mapR (fun x : Nat => ⟨kind, (x : Int), { data := #[] }, false⟩) (rLongW 4294967295 bs)
  else if kind = 4 then mapR (fun l => ⟨kind, 0, tx l, false⟩) (rKeyText bs)
  else if kind = 5 then mapR (fun b => ⟨kind, 0, { data := #[] }, b⟩) (rTruth bs)
  else .error 27

theorem rLong_bound {L : Nat} {bs : List Nat} {y : Nat} {er : Int} {W3 : World} {rb : Nat} (h8 : ∀ c ∈ bs, c < 256) (h : (∃ r, rLong bs = .ok (y, r) ∧ er = 0 ∧ Rest L W3 rb r) ∨ (rLong bs = .error er ∧ y = 0 ∧ er ≠ 0)) : y < 18446744073709551616 := by
  rcases h with ⟨r, h, _⟩ | ⟨_, rfl, _⟩
  · exact rLong_lt h8 h
  · omega

theorem unsign_eq (y : Nat) (hy : y < 18446744073709551616) : wrap64 (bits BinOp.xor IntKind.u64 (y : Int) 9223372036854775808) = unsign y := by
  have h0 : -9223372036854775808 ≤ wrap64 y := by unfold wrap64; omega
  have h1 : wrap64 y ≤ 9223372036854775807 := by unfold wrap64; omega
  have h := sign_eq (wrap64 y) h0 h1
  have hw : IntKind.u64.wrap (wrap64 y) = (y : Int) := by rw [wrap_u64']; unfold wrap64; omega
  rw [hw] at h
  rw [h]
  unfold unsign wrap64
  omega

theorem part_end {L : Nat} {W : World} {rb : Nat} {kind : Int} {bs : List Nat} {W2 W3 : World} (HT : Two L W rb kind bs W2) (hg : W2.grownBy W3 (some rb)) (o : Nat) (u : Value) (f : Fld) (er : Int) (R' : Except Int (Fld × List Nat))
    (hr : (∃ r, R' = .ok (f, r) ∧ er = 0 ∧ Rest L W3 rb r) ∨ (R' = .error er ∧ f = zP kind ∧ er ≠ 0)) (cs : List Value) :
    RdP L Fld.val (zP kind) W rb R' (.returned (.tuple #[f.val, .int .i64 er])) ((W3.setCell ⟨W.heap.size + 1, o, none⟩ u).setCells W.heap.size 0 cs) := by
  have hs := HT.size
  have hrl := HT.rlt
  have hL := HT.L
  have g0 : W.grownBy W2 (some rb) := ⟨HT.below.os, HT.below.tape, HT.below.output, HT.below.size, fun k hk _ => HT.below.block k hk⟩
  have g2 : W3.grownBy (W3.setCell ⟨W.heap.size + 1, o, none⟩ u) (some (W.heap.size + 1)) := Lib.grownBy_setCell W3 _ o u
  have g3 := grownBy_setCells (W3.setCell ⟨W.heap.size + 1, o, none⟩ u) W.heap.size cs 0
  have gA : W.grownBy W3 (some rb) := Lib.grownBy_trans g0 hg
  have gB := gA.andThen g2 (fun j e => .inl (by have : W.heap.size + 1 = j := by simpa using e
                                                omega))
  have gC := gB.andThen g3 (fun j e => .inl (by have : W.heap.size = j := by simpa using e
                                                omega))
  rcases hr with ⟨r, hR, h0, hrest⟩ | ⟨hR, hf, h0⟩
  · rw [hR, h0]
    exact ⟨rfl, (hrest.far g2 (by omega) (by omega)).far g3 hL (by omega), gC⟩
  · rw [hR, hf]
    exact ⟨rfl, h0, gC⟩

set_option maxHeartbeats 4000000 in
set_option maxRecDepth 100000 in
theorem part_any {L : Nat} (rb : Nat) (kind : Int) (bs : List Nat) (W : World) (h : Rest L W rb bs) (hL : L ≤ W.heap.size) :
    Calls Try.prog 20 #[.pointer (some ⟨rb, 0, none⟩), .int .i64 kind] W (RdP L Fld.val (zP kind) W rb (rPart kind bs)) := by
  have HT := Lib.hid (two_of kind h hL)
  have H8 := Lib.hid h.1
  clear h hL
  go_enter Try.func20, Try.ntmps20
  go_upto_region 2 with fail
  generalize ((W.alloc (.cells #[.int .i64 0, .int .i64 0, .string { data := #[] }, .bool false] 37)).alloc (.cells #[.int .i64 kind, .int .i64 0, .string { data := #[] }, .bool false] 37)) = W2 at HT ⊢
  by_cases h1 : kind = 1
  · subst h1
    have H := Lib.hid (longWithin_any rb 9223372036854775807 (by omega) bs W2 HT.out.rest)
    go_wp2_with (first
      | (go_at_call 33; refine H.out.mono ?_; intro e W3 hp; obtain ⟨y, er, rfl, hg, hr⟩ := hp.any; have hF3 := (hg.block (W.heap.size + 1) (by have := HT.out.size; omega) (by have := HT.out.rlt; simp; omega)).trans HT.out.F; have hR3 := (hg.block W.heap.size (by have := HT.out.size; omega) (by have := HT.out.rlt; simp; omega)).trans HT.out.R; have HG := Lib.hid hg; have HR := Lib.hid hr; have HF3 := Lib.hid hF3; have HR3 := Lib.hid hR3; obtain ⟨q0, q1, q2, q3⟩ := fbox hF3; have z1 := fbox_frozen hF3 1; have hT4 := there_set hR3 (show W.heap.size ≠ W.heap.size + 1 by omega) 1 (.int .i64 (y : Int)); clear hg hr hF3 hR3 hp)
      | (refine wpList_store_mid rfl 37 _ _ rfl W.heap.size 0 #[.int .i64 1, .int .i64 (y : Int), .string { data := #[] }, .bool false] rfl rfl hT4 infoF (cells4_one _ _ _ _) ?_))
    refine bodyPost_ret (by exact ret_cell_tmp (cs := [.int .i64 1, .int .i64 (y : Int), .string { data := #[] }, .bool false]) rfl rfl (World.rangeAt_setCells_same _ _ _ _ hT4) Try.underlying37 rfl infoF) rfl ?_
    refine part_end HT.out HG.out 1 _ ⟨1, (y : Int), { data := #[] }, false⟩ er (rPart 1 bs) ?_ _
    rcases HR.out with ⟨r, hR, h0, hrest⟩ | ⟨hR, hy, h0⟩
    · exact .inl ⟨r, by rw [rPart]; rw [if_pos rfl, hR]; rfl, h0, hrest⟩
    · exact .inr ⟨by rw [rPart]; rw [if_pos rfl, hR]; rfl, by rw [hy]; rfl, h0⟩
  by_cases h2 : kind = 2
  · subst h2
    have H := Lib.hid (long_any rb bs W2 HT.out.rest)
    go_wp2_with (first
      | (go_at_call 34; refine H.out.mono ?_; intro e W3 hp; obtain ⟨y, er, rfl, hg, hr⟩ := hp.any; have hF3 := (hg.block (W.heap.size + 1) (by have := HT.out.size; omega) (by have := HT.out.rlt; simp; omega)).trans HT.out.F; have hR3 := (hg.block W.heap.size (by have := HT.out.size; omega) (by have := HT.out.rlt; simp; omega)).trans HT.out.R; have HG := Lib.hid hg; have HR := Lib.hid hr; have HF3 := Lib.hid hF3; have HR3 := Lib.hid hR3; obtain ⟨q0, q1, q2, q3⟩ := fbox hF3; have z1 := fbox_frozen hF3 1; have hT4 := there_set hR3 (show W.heap.size ≠ W.heap.size + 1 by omega) 1 (.int .i64 (unsign y)); have hun : True → wrap64 (bits BinOp.xor IntKind.u64 (y : Int) 9223372036854775808) = unsign y := fun _ => unsign_eq y (rLong_bound H8.out hr); clear hg hr hF3 hR3 hp)
      | (refine wpList_store_mid rfl 37 _ _ rfl W.heap.size 0 #[.int .i64 2, .int .i64 (unsign y), .string { data := #[] }, .bool false] rfl rfl hT4 infoF (cells4_one _ _ _ _) ?_))
    refine bodyPost_ret (by exact ret_cell_tmp (cs := [.int .i64 2, .int .i64 (unsign y), .string { data := #[] }, .bool false]) rfl rfl (World.rangeAt_setCells_same _ _ _ _ hT4) Try.underlying37 rfl infoF) rfl ?_
    refine part_end HT.out HG.out 1 _ ⟨2, unsign y, { data := #[] }, false⟩ er (rPart 2 bs) ?_ _
    rcases HR.out with ⟨r, hR, h0, hrest⟩ | ⟨hR, hy, h0⟩
    · exact .inl ⟨r, by rw [rPart]; rw [if_neg (show ¬ (2 : Int) = 1 by decide)]; rw [if_pos rfl, hR]; rfl, h0, hrest⟩
    · exact .inr ⟨by rw [rPart]; rw [if_neg (show ¬ (2 : Int) = 1 by decide)]; rw [if_pos rfl, hR]; rfl, by rw [hy]; rfl, h0⟩
  by_cases h3 : kind = 3
  · subst h3
    have H := Lib.hid (longWithin_any rb 4294967295 (by omega) bs W2 HT.out.rest)
    go_wp2_with (first
      | (go_at_call 33; refine H.out.mono ?_; intro e W3 hp; obtain ⟨y, er, rfl, hg, hr⟩ := hp.any; have hF3 := (hg.block (W.heap.size + 1) (by have := HT.out.size; omega) (by have := HT.out.rlt; simp; omega)).trans HT.out.F; have hR3 := (hg.block W.heap.size (by have := HT.out.size; omega) (by have := HT.out.rlt; simp; omega)).trans HT.out.R; have HG := Lib.hid hg; have HR := Lib.hid hr; have HF3 := Lib.hid hF3; have HR3 := Lib.hid hR3; obtain ⟨q0, q1, q2, q3⟩ := fbox hF3; have z1 := fbox_frozen hF3 1; have hT4 := there_set hR3 (show W.heap.size ≠ W.heap.size + 1 by omega) 1 (.int .i64 (y : Int)); clear hg hr hF3 hR3 hp)
      | (refine wpList_store_mid rfl 37 _ _ rfl W.heap.size 0 #[.int .i64 3, .int .i64 (y : Int), .string { data := #[] }, .bool false] rfl rfl hT4 infoF (cells4_one _ _ _ _) ?_))
    refine bodyPost_ret (by exact ret_cell_tmp (cs := [.int .i64 3, .int .i64 (y : Int), .string { data := #[] }, .bool false]) rfl rfl (World.rangeAt_setCells_same _ _ _ _ hT4) Try.underlying37 rfl infoF) rfl ?_
    refine part_end HT.out HG.out 1 _ ⟨3, (y : Int), { data := #[] }, false⟩ er (rPart 3 bs) ?_ _
    rcases HR.out with ⟨r, hR, h0, hrest⟩ | ⟨hR, hy, h0⟩
    · exact .inl ⟨r, by rw [rPart]; rw [if_neg (show ¬ (3 : Int) = 1 by decide)]; rw [if_neg (show ¬ (3 : Int) = 2 by decide)]; rw [if_pos rfl, hR]; rfl, h0, hrest⟩
    · exact .inr ⟨by rw [rPart]; rw [if_neg (show ¬ (3 : Int) = 1 by decide)]; rw [if_neg (show ¬ (3 : Int) = 2 by decide)]; rw [if_pos rfl, hR]; rfl, by rw [hy]; rfl, h0⟩
  by_cases h4 : kind = 4
  · subst h4
    have H := Lib.hid (keyText_any rb bs W2 HT.out.rest (by have := HT.out.size; have := HT.out.L; omega))
    go_wp2_with (first
      | (go_at_call 35; refine H.out.mono ?_; intro e W3 hp; obtain ⟨y, er, rfl, hg, hr⟩ := hp.any; have hF3 := (hg.block (W.heap.size + 1) (by have := HT.out.size; omega) (by have := HT.out.rlt; simp; omega)).trans HT.out.F; have hR3 := (hg.block W.heap.size (by have := HT.out.size; omega) (by have := HT.out.rlt; simp; omega)).trans HT.out.R; have HG := Lib.hid hg; have HR := Lib.hid hr; have HF3 := Lib.hid hF3; have HR3 := Lib.hid hR3; obtain ⟨q0, q1, q2, q3⟩ := fbox hF3; have z1 := fbox_frozen hF3 2; have hT4 := there_set hR3 (show W.heap.size ≠ W.heap.size + 1 by omega) 2 (.string (tx y)); clear hg hr hF3 hR3 hp)
      | (refine wpList_store_mid rfl 37 _ _ rfl W.heap.size 0 #[.int .i64 4, .int .i64 0, .string (tx y), .bool false] rfl rfl hT4 infoF (cells4_one _ _ _ _) ?_))
    refine bodyPost_ret (by exact ret_cell_tmp (cs := [.int .i64 4, .int .i64 0, .string (tx y), .bool false]) rfl rfl (World.rangeAt_setCells_same _ _ _ _ hT4) Try.underlying37 rfl infoF) rfl ?_
    refine part_end HT.out HG.out 2 _ ⟨4, 0, tx y, false⟩ er (rPart 4 bs) ?_ _
    rcases HR.out with ⟨r, hR, h0, hrest⟩ | ⟨hR, hy, h0⟩
    · exact .inl ⟨r, by rw [rPart]; rw [if_neg (show ¬ (4 : Int) = 1 by decide)]; rw [if_neg (show ¬ (4 : Int) = 2 by decide)]; rw [if_neg (show ¬ (4 : Int) = 3 by decide)]; rw [if_pos rfl, hR]; rfl, h0, hrest⟩
    · exact .inr ⟨by rw [rPart]; rw [if_neg (show ¬ (4 : Int) = 1 by decide)]; rw [if_neg (show ¬ (4 : Int) = 2 by decide)]; rw [if_neg (show ¬ (4 : Int) = 3 by decide)]; rw [if_pos rfl, hR]; rfl, by rw [hy]; rfl, h0⟩
  by_cases h5 : kind = 5
  · subst h5
    have H := Lib.hid (truth_any rb bs W2 HT.out.rest)
    go_wp2_with (first
      | (go_at_call 36; refine H.out.mono ?_; intro e W3 hp; obtain ⟨y, er, rfl, hg, hr⟩ := hp.any; have hF3 := (hg.block (W.heap.size + 1) (by have := HT.out.size; omega) (by have := HT.out.rlt; simp; omega)).trans HT.out.F; have hR3 := (hg.block W.heap.size (by have := HT.out.size; omega) (by have := HT.out.rlt; simp; omega)).trans HT.out.R; have HG := Lib.hid hg; have HR := Lib.hid hr; have HF3 := Lib.hid hF3; have HR3 := Lib.hid hR3; obtain ⟨q0, q1, q2, q3⟩ := fbox hF3; have z1 := fbox_frozen hF3 3; have hT4 := there_set hR3 (show W.heap.size ≠ W.heap.size + 1 by omega) 3 (.bool y); clear hg hr hF3 hR3 hp)
      | (refine wpList_store_mid rfl 37 _ _ rfl W.heap.size 0 #[.int .i64 5, .int .i64 0, .string { data := #[] }, .bool y] rfl rfl hT4 infoF (cells4_one _ _ _ _) ?_))
    refine bodyPost_ret (by exact ret_cell_tmp (cs := [.int .i64 5, .int .i64 0, .string { data := #[] }, .bool y]) rfl rfl (World.rangeAt_setCells_same _ _ _ _ hT4) Try.underlying37 rfl infoF) rfl ?_
    refine part_end HT.out HG.out 3 _ ⟨5, 0, { data := #[] }, y⟩ er (rPart 5 bs) ?_ _
    rcases HR.out with ⟨r, hR, h0, hrest⟩ | ⟨hR, hy, h0⟩
    · exact .inl ⟨r, by rw [rPart]; rw [if_neg (show ¬ (5 : Int) = 1 by decide)]; rw [if_neg (show ¬ (5 : Int) = 2 by decide)]; rw [if_neg (show ¬ (5 : Int) = 3 by decide)]; rw [if_neg (show ¬ (5 : Int) = 4 by decide)]; rw [if_pos rfl, hR]; rfl, h0, hrest⟩
    · exact .inr ⟨by rw [rPart]; rw [if_neg (show ¬ (5 : Int) = 1 by decide)]; rw [if_neg (show ¬ (5 : Int) = 2 by decide)]; rw [if_neg (show ¬ (5 : Int) = 3 by decide)]; rw [if_neg (show ¬ (5 : Int) = 4 by decide)]; rw [if_pos rfl, hR]; rfl, by rw [hy]; rfl, h0⟩
  obtain ⟨q0, q1, q2, q3⟩ := fbox HT.out.F
  have hT4 := fbox_there HT.out.R
  have b1 : True → (kind == 1) = false := fun _ => by simpa using h1
  have b2 : True → (kind == 2) = false := fun _ => by simpa using h2
  have b3 : True → (kind == 3) = false := fun _ => by simpa using h3
  have b4 : True → (kind == 4) = false := fun _ => by simpa using h4
  have b5 : True → (kind == 5) = false := fun _ => by simpa using h5
  have HZ := Lib.hid (show zP kind = noF kind from if_neg h2)
  have HE := Lib.hid (show rPart kind bs = .error 27 by rw [rPart, if_neg h1, if_neg h2, if_neg h3, if_neg h4, if_neg h5])
  clear h1 h2 h3 h4 h5
  go_wp2_with (refine wpList_store_mid rfl 37 _ _ rfl W.heap.size 0 #[.int .i64 kind, .int .i64 0, .string { data := #[] }, .bool false] rfl rfl hT4 infoF (cells4_one _ _ _ _) ?_)
  refine bodyPost_ret (by exact ret_cell_tmp (cs := [.int .i64 kind, .int .i64 0, .string { data := #[] }, .bool false]) rfl rfl (World.rangeAt_setCells_same _ _ _ _ hT4) Try.underlying37 rfl infoF) rfl ?_
  rw [HE.out, HZ.out]
  exact field_none HT.out _


end Go.Proofs.Ytfpfgckakppllaa.code
