/- Who is missing: missing, Wait of the program. -/
import Derived.Test.YtcofmfjhgbihkaaRows
import Derived.Test.YtcofmfjhgbihkaaLeadRAck
namespace Go.Proofs.Ytcofmfjhgbihkaa.crush
open Go.RowKit
open Go.Proofs.Ytcofmfjhgbihkaa.kit Go.Proofs.Ytcofmfjhgbihkaa.own
set_option linter.unusedVariables false
set_option linter.unusedSimpArgs false

/-- The numbers below m that no one in the row has. -/
def anyL {α : Type} (f : α → Int) (xs : List α) (k : Int) : Bool := xs.any fun x => decide (f x = k)
def absL {α : Type} (f : α → Int) (xs : List α) : Nat → List Int
  | 0 => []
  | k + 1 => absL f xs k ++ (if anyL f xs k then [] else [(k : Int)])
theorem absL_len {α : Type} (f : α → Int) (xs : List α) : ∀ m, (absL f xs m).length ≤ m
  | 0 => Nat.le_refl _
  | k + 1 => by
    have := absL_len f xs k
    rw [absL, List.length_append]
    split <;> simp <;> omega
theorem hit_any {α : Type} {f : α → Int} {xs : List α} (hr : Ris f xs) (k : Int) : hitL f k xs = anyL f xs k := by
  unfold hitL anyL
  rcases Nat.lt_or_ge (posL f k xs) xs.length with h | h
  · rw [atL_in h]
    by_cases h2 : f xs[posL f k xs] = k
    · rw [decide_eq_true h2]
      exact (List.any_eq_true.2 ⟨xs[posL f k xs], List.getElem_mem h, by simpa using h2⟩).symm
    · rw [decide_eq_false h2]
      refine Eq.symm (List.any_eq_false.2 fun x hx => ?_)
      obtain ⟨j, hj, rfl⟩ := List.getElem_of_mem hx
      simp only [decide_eq_true_eq]
      intro e
      have h3 := posL_at f k xs h
      rcases Nat.lt_trichotomy j (posL f k xs) with h4 | h4 | h4
      · have := posL_lt f k xs j hj h4; omega
      · subst h4; exact h2 e
      · have := hr _ _ h hj h4; omega
  · rw [atL_out h]
    refine Eq.symm (List.any_eq_false.2 fun x hx => ?_)
    obtain ⟨j, hj, rfl⟩ := List.getElem_of_mem hx
    simp only [decide_eq_true_eq]
    intro e
    have := posL_lt f k xs j hj (by omega)
    omega
def LeadV.wait (l : LeadV) (n : Int) : List Int := if l.st = 1 then absL PromV.mon l.ps (min n 64).toNat else if l.st = 2 ∧ l.has = true then absL (fun z => z) l.ak (min n 64).toNat else []

set_option maxHeartbeats 8000000 in
set_option maxRecDepth 100000 in
theorem missP_any (v : Value) (xs : List PromV) (n : Int) (w : World) (h : Sl prc 6 w v xs) (hr : Ris PromV.mon xs) (hl : xs.length ≤ 1100000) :
    Calls Try.prog 62 #[v, .int .i64 n, .func (.func 63) #[] #[]] w (RowS ic 1 3 w (absL PromV.mon xs (min n 64).toNat)) := by
  have HPl := Lib.hid (fun (k : Int) u (hu : Below w.heap.size w u) => (placeP_any v xs k u (h.keep hu) hr hl).mono (fun e w' h => (show e = .returned (.tuple #[.int .i64 (posL PromV.mon k xs : Nat), .bool (anyL PromV.mon xs k)]) ∧ Below u.heap.size u w' from ⟨by rw [h.1, hit_any hr], h.2⟩)))
  obtain ⟨a, c, rfl⟩ := h.slice
  obtain ⟨M, hM⟩ : ∃ M, (min n 64).toNat = M := ⟨_, rfl⟩
  have hM64 : M ≤ 64 := by omega
  have HM : Hid (∀ k : Nat, ((k : Int) < min n 64 ↔ k < M)) := Lib.hid (fun k => by omega)
  have HM2 : Hid (∀ k : Nat, k ≤ M → ¬ k < M → k = M) := Lib.hid (fun k h1 h2 => by omega)
  rw [hM]
  clear h hr hl hM
  go_enter Try.func62, Try.ntmps62
  go_wp2
  go_loopw [7, 8, 9, 10, 13] (fun v7 v8 v9 v10 v13 wr => ∃ k : Nat, k ≤ M ∧ v13 = .int .i64 k ∧ Own ic 1 3 wr w.heap.size v7 (absL PromV.mon xs k) ∧ Below w.heap.size w wr) (fun _ _ _ _ i _ => M - (intOf i).toNat)
  case atStart => exact ⟨0, by omega, rfl, Own.nil _ _ _, Below.refl _ _⟩
  case round =>
    obtain ⟨k, hk, rfl, ho, hbw⟩ := hrel
    have HBw := Lib.hid hbw
    obtain ⟨p, q, rfl⟩ := ho.slice
    have HO := Lib.hid ho
    clear hbw ho
    by_cases hlt : k < M
    · have hlt' : (k : Int) < min n 64 := (HM.out k).2 hlt
      have hk0 : (0 : Int) ≤ k := by omega
      have hLe := absL_len PromV.mon xs k
      have hNx : absL PromV.mon xs (k + 1) = absL PromV.mon xs k ++ (if anyL PromV.mon xs k then [] else [(k : Int)]) := rfl
      have HP1 := Lib.hid (HPl.out k _ HBw.out)
      generalize absL PromV.mon xs k = ys at HO hNx hLe
      generalize anyL PromV.mon xs k = q9 at HP1 hNx
      have HNx := Lib.hid hNx
      have HLe := Lib.hid hLe
      clear hNx hLe
      cases q9 with
      | true =>
        go_wp2_with (go_at_call 100; refine HP1.out.mono ?_; rintro e w' ⟨rfl, hb⟩; have HB9 := Lib.hid hb; clear hb)
        go_roundw
        case rel => exact ⟨k + 1, by omega, by go_num, by rw [HNx.out]; simpa using HO.out.below HB9.out, HBw.out.trans (HB9.out.mono HBw.out.size)⟩
        case measure => simp [intOf]; omega
      | false =>
        go_upto_region 7 with (go_at_call 100; refine HP1.out.mono ?_; rintro e w' ⟨rfl, hb⟩; have HB9 := Lib.hid hb; clear hb)
        have hbo := below_new w' (.cells #[.int .i64 k] 3)
        have HSo := Lib.hid (sl_oneL (enc := ic) ic_len (x := (k : Int)) (alloc_at w' (.cells #[.int .i64 k] 3)))
        have HO1 := Lib.hid ((HO.out.below HB9.out).below hbo)
        have HBB := Lib.hid ((HBw.out.trans (HB9.out.mono HBw.out.size)).trans (hbo.mono (HBw.out.trans (HB9.out.mono HBw.out.size)).size))
        have HkM : Hid (ys.length ≤ 1000000) := Lib.hid (by have := HLe.out; omega)
        clear hbo
        go_wp2_with (at_builtin; refine appSl ic_len ic_one (by decide) rfl _ _ 25 rfl w.heap.size 3 _ (by rfl) 8 Try.underlying25 infoInt _ ys rfl HO1.out _ [(k : Int)] rfl HSo.out (by have := HkM.out; unfold maxLen; simp; omega) (by have := HkM.out; simp; omega) HBB.out.size ?_; intro v9 w9 ho9 hk9; have HO9 := Lib.hid ho9; have HB8 := Lib.hid (HBB.out.trans hk9.toBelow); clear ho9 hk9)
        go_roundw
        case rel => exact ⟨k + 1, by omega, by go_num, by rw [HNx.out]; exact HO9.out, HB8.out⟩
        case measure => simp [intOf]; omega
    · obtain rfl : k = M := HM2.out k hk hlt
      have hlt' : ¬ (k : Int) < min n 64 := fun h => hlt ((HM.out k).1 h)
      go_wp2
      go_ret
      exact ⟨_, rfl, HO.out, HBw.out⟩

set_option maxHeartbeats 8000000 in
set_option maxRecDepth 100000 in
theorem missI_any (v : Value) (xs : List Int) (n : Int) (w : World) (h : Sl ic 1 w v xs) (hr : Ris (fun z => z) xs) (hl : xs.length ≤ 1100000) :
    Calls Try.prog 64 #[v, .int .i64 n, .func (.func 59) #[] #[]] w (RowS ic 1 3 w (absL (fun z => z) xs (min n 64).toNat)) := by
  have HPl := Lib.hid (fun (k : Int) u (hu : Below w.heap.size w u) => (placeI_any v xs k u (h.keep hu) hr hl).mono (fun e w' h => (show e = .returned (.tuple #[.int .i64 (posL (fun z => z) k xs : Nat), .bool (anyL (fun z => z) xs k)]) ∧ Below u.heap.size u w' from ⟨by rw [h.1, hit_any hr], h.2⟩)))
  obtain ⟨a, c, rfl⟩ := h.slice
  obtain ⟨M, hM⟩ : ∃ M, (min n 64).toNat = M := ⟨_, rfl⟩
  have hM64 : M ≤ 64 := by omega
  have HM : Hid (∀ k : Nat, ((k : Int) < min n 64 ↔ k < M)) := Lib.hid (fun k => by omega)
  have HM2 : Hid (∀ k : Nat, k ≤ M → ¬ k < M → k = M) := Lib.hid (fun k h1 h2 => by omega)
  rw [hM]
  clear h hr hl hM
  go_enter Try.func64, Try.ntmps64
  go_wp2
  go_loopw [7, 8, 9, 10, 13] (fun v7 v8 v9 v10 v13 wr => ∃ k : Nat, k ≤ M ∧ v13 = .int .i64 k ∧ Own ic 1 3 wr w.heap.size v7 (absL (fun z => z) xs k) ∧ Below w.heap.size w wr) (fun _ _ _ _ i _ => M - (intOf i).toNat)
  case atStart => exact ⟨0, by omega, rfl, Own.nil _ _ _, Below.refl _ _⟩
  case round =>
    obtain ⟨k, hk, rfl, ho, hbw⟩ := hrel
    have HBw := Lib.hid hbw
    obtain ⟨p, q, rfl⟩ := ho.slice
    have HO := Lib.hid ho
    clear hbw ho
    by_cases hlt : k < M
    · have hlt' : (k : Int) < min n 64 := (HM.out k).2 hlt
      have hk0 : (0 : Int) ≤ k := by omega
      have hLe := absL_len (fun z => z) xs k
      have hNx : absL (fun z => z) xs (k + 1) = absL (fun z => z) xs k ++ (if anyL (fun z => z) xs k then [] else [(k : Int)]) := rfl
      have HP1 := Lib.hid (HPl.out k _ HBw.out)
      generalize absL (fun z => z) xs k = ys at HO hNx hLe
      generalize anyL (fun z => z) xs k = q9 at HP1 hNx
      have HNx := Lib.hid hNx
      have HLe := Lib.hid hLe
      clear hNx hLe
      cases q9 with
      | true =>
        go_wp2_with (go_at_call 98; refine HP1.out.mono ?_; rintro e w' ⟨rfl, hb⟩; have HB9 := Lib.hid hb; clear hb)
        go_roundw
        case rel => exact ⟨k + 1, by omega, by go_num, by rw [HNx.out]; simpa using HO.out.below HB9.out, HBw.out.trans (HB9.out.mono HBw.out.size)⟩
        case measure => simp [intOf]; omega
      | false =>
        go_upto_region 7 with (go_at_call 98; refine HP1.out.mono ?_; rintro e w' ⟨rfl, hb⟩; have HB9 := Lib.hid hb; clear hb)
        have hbo := below_new w' (.cells #[.int .i64 k] 3)
        have HSo := Lib.hid (sl_oneL (enc := ic) ic_len (x := (k : Int)) (alloc_at w' (.cells #[.int .i64 k] 3)))
        have HO1 := Lib.hid ((HO.out.below HB9.out).below hbo)
        have HBB := Lib.hid ((HBw.out.trans (HB9.out.mono HBw.out.size)).trans (hbo.mono (HBw.out.trans (HB9.out.mono HBw.out.size)).size))
        have HkM : Hid (ys.length ≤ 1000000) := Lib.hid (by have := HLe.out; omega)
        clear hbo
        go_wp2_with (at_builtin; refine appSl ic_len ic_one (by decide) rfl _ _ 25 rfl w.heap.size 3 _ (by rfl) 8 Try.underlying25 infoInt _ ys rfl HO1.out _ [(k : Int)] rfl HSo.out (by have := HkM.out; unfold maxLen; simp; omega) (by have := HkM.out; simp; omega) HBB.out.size ?_; intro v9 w9 ho9 hk9; have HO9 := Lib.hid ho9; have HB8 := Lib.hid (HBB.out.trans hk9.toBelow); clear ho9 hk9)
        go_roundw
        case rel => exact ⟨k + 1, by omega, by go_num, by rw [HNx.out]; exact HO9.out, HB8.out⟩
        case measure => simp [intOf]; omega
    · obtain rfl : k = M := HM2.out k hk hlt
      have hlt' : ¬ (k : Int) < min n 64 := fun h => hlt ((HM.out k).1 h)
      go_wp2
      go_ret
      exact ⟨_, rfl, HO.out, HBw.out⟩

set_option maxHeartbeats 8000000 in
set_option maxRecDepth 100000 in
theorem Wait_any (v : Value) (l : LeadV) (n : Int) (w : World) (h : LdR w v l) (hr : Ris PromV.mon l.ps) (hk : Ris (fun z => z) l.ak) (hl : l.Small) : Calls Try.prog 24 #[v, .int .i64 n] w (RowS ic 1 3 w (l.wait n)) := by
  obtain ⟨s, t, rfl, hs, ht⟩ := h
  have hb := below_new w (.cells #[.int .i64 l.st, .int .i64 l.r, .int .i64 l.m, s, .bool l.has, .string l.val, t] 27)
  have HX := Lib.hid (lbox_new w l.st l.r l.m s l.has l.val t)
  have HP := Lib.hid (fun u (hu : Below w.heap.size w u) => missP_any s l.ps n u (hs.keep hu) hr hl.1)
  have HI := Lib.hid (fun u (hu : Below w.heap.size w u) => missI_any t l.ak n u (ht.keep hu) hk hl.2)
  have HB := Lib.hid hb
  obtain ⟨sa, sc, rfl⟩ := hs.slice
  obtain ⟨ta, tc, rfl⟩ := ht.slice
  clear hs ht hr hk hl hb
  unfold LeadV.agg LeadV.wait
  generalize absL PromV.mon l.ps (min n 64).toNat = ys at HP ⊢
  generalize absL (fun z => z) l.ak (min n 64).toNat = zs at HI ⊢
  obtain ⟨st, r, m, ps, has, val, ak⟩ := l
  simp only at HX HP HI HB ⊢
  by_cases h1 : st = 1
  · rw [if_pos h1]
    subst h1
    go_enter Try.func24, Try.ntmps24
    obtain ⟨l0, l1, l2, l3, l4, l5, l6⟩ := HX.out.cells
    go_wp2_with (go_at_call 62; refine (HP.out _ HB.out).mono ?_; rintro e w' ⟨v', rfl, ho, hb⟩; have HO := Lib.hid ho; have HB9 := Lib.hid hb; clear ho hb l0 l1 l2 l3 l4 l5 l6)
    obtain ⟨p, q, rfl⟩ := HO.out.slice
    go_ret
    exact ⟨_, rfl, HO.out.mono HB.out.size, HB.out.trans (HB9.out.mono HB.out.size)⟩
  · rw [if_neg h1]
    by_cases h2 : st = 2
    · subst h2
      cases has with
      | true =>
        rw [if_pos ⟨rfl, rfl⟩]
        go_enter Try.func24, Try.ntmps24
        obtain ⟨l0, l1, l2, l3, l4, l5, l6⟩ := HX.out.cells
        go_wp2_with (go_at_call 64; refine (HI.out _ HB.out).mono ?_; rintro e w' ⟨v', rfl, ho, hb⟩; have HO := Lib.hid ho; have HB9 := Lib.hid hb; clear ho hb l0 l1 l2 l3 l4 l5 l6)
        obtain ⟨p, q, rfl⟩ := HO.out.slice
        go_ret
        exact ⟨_, rfl, HO.out.mono HB.out.size, HB.out.trans (HB9.out.mono HB.out.size)⟩
      | false =>
        rw [if_neg (fun e => by cases e.2)]
        go_enter Try.func24, Try.ntmps24
        obtain ⟨l0, l1, l2, l3, l4, l5, l6⟩ := HX.out.cells
        go_wp2
        go_ret
        exact ⟨_, rfl, Own.nil _ _ _, HB.out⟩
    · rw [if_neg (fun e => h2 e.1)]
      go_enter Try.func24, Try.ntmps24
      obtain ⟨l0, l1, l2, l3, l4, l5, l6⟩ := HX.out.cells
      go_wp2
      go_ret
      exact ⟨_, rfl, Own.nil _ _ _, HB.out⟩
end Go.Proofs.Ytcofmfjhgbihkaa.crush
