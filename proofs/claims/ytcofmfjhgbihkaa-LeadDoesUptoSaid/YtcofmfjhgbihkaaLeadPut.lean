/- Where a monitor stands in a row that rises, and a row with one put in. -/
import Derived.Test.YtcofmfjhgbihkaaRows
import Derived.Test.YtcofmfjhgbihkaaLeadBsP
import Derived.Test.YtcofmfjhgbihkaaLeadBsI
import Derived.Test.YtcofmfjhgbihkaaLeadInsP
import Derived.Test.YtcofmfjhgbihkaaLeadInsI
namespace Go.Proofs.Ytcofmfjhgbihkaa.crush
open Go.RowKit
open Go.Proofs.Ytcofmfjhgbihkaa.kit Go.Proofs.Ytcofmfjhgbihkaa.own
set_option linter.unusedVariables false
set_option linter.unusedSimpArgs false

theorem promiser_any (p : PromV) (w : World) : Calls Try.prog 63 #[.agg (prc p).toArray] w fun e w' => e = .returned (.int .i64 p.mon) ∧ Below w.heap.size w w' := by
  have HB := Lib.hid (below_new w (.cells (prc p).toArray 53))
  unfold prc at HB ⊢
  go_enter Try.func63, Try.ntmps63
  go_wp2
  go_ret
  exact ⟨rfl, HB.out⟩
theorem itself_any (p : Int) (w : World) : Calls Try.prog 59 #[.int .i64 p] w fun e w' => e = .returned (.int .i64 p) ∧ Below w.heap.size w w' := by
  have HB := Lib.hid (Below.refl w.heap.size w)
  go_enter Try.func59, Try.ntmps59
  go_wp2
  go_ret
  exact ⟨rfl, HB.out⟩
theorem sizePr : (Try.prog.info? 53).map (·.size) = some 6 := by kernel_rfl
theorem cell_ltP {w : World} {a : Addr} {v : Value} (h : w.cell? a = some v) : a.block < w.heap.size := by
  rcases Nat.lt_or_ge a.block w.heap.size with h1 | h1
  · exact h1
  · have : w.heap[a.block]? = none := Array.getElem?_eq_none h1
    simp [World.cell?, this] at h
theorem box_cell {w : World} {q : Nat} {v : Value} {t : TypeId} (h : w.heap[q]? = some (.cells #[v] t (0, 0))) : w.cell? ⟨q, 0, none⟩ = some v := by
  simp only [World.cell?, h]
  rfl

set_option maxHeartbeats 4000000 in
set_option maxRecDepth 100000 in
theorem place1P (x : PromV) (y : Int) (q : Nat) (u : World) (hq : u.cell? ⟨q, 0, none⟩ = some (.func (.func 63) #[] #[])) : Calls Try.prog 121 #[.agg (prc x).toArray, .int .i64 y, .pointer (some ⟨q, 0, none⟩)] u fun e w' => e = .returned (.int .i64 (cmp3 (x.mon) y)) ∧ Below u.heap.size u w' := by
  have HP := Lib.hid (fun v => promiser_any x v)
  have HC := Lib.hid (fun a b v => cmp_int a b v)
  have hql : q < u.heap.size := cell_ltP hq
  have hb := below_new u (.cells (prc x).toArray 53)
  have HB := Lib.hid hb
  have hq1 : (u.alloc (.cells (prc x).toArray 53)).cell? ⟨q, 0, none⟩ = some (.func (.func 63) #[] #[]) := (hb.cell hql).trans hq
  clear hq hb
  unfold prc at HB HP hq1 ⊢
  go_enter Try.func121, Try.ntmps121
  go_wp2_with (first
    | (go_at_call 63; refine (HP.out _).mono ?_; rintro e w1 ⟨rfl, hb⟩; have HB1 := Lib.hid (HB.out.trans (hb.mono HB.out.size)); clear hb)
    | (go_at_call 117; refine (HC.out _ _ _).mono ?_; rintro e w2 ⟨rfl, rfl⟩))
  go_ret
  exact ⟨rfl, HB1.out⟩

set_option maxHeartbeats 4000000 in
set_option maxRecDepth 100000 in
theorem placeP_any (v : Value) (xs : List PromV) (y : Int) (w : World) (h : Sl prc 6 w v xs) (hr : Ris PromV.mon xs) (hl : xs.length ≤ 1100000) :
    Calls Try.prog 100 #[v, .int .i64 y, .func (.func 63) #[] #[]] w fun e w' => e = .returned (.tuple #[.int .i64 (posL PromV.mon y xs : Nat), .bool (hitL PromV.mon y xs)]) ∧ Below w.heap.size w w' := by
  have hb := below_new w (.cells #[.func (.func 63) #[] #[]] 112)
  have ha := alloc_at w (.cells #[.func (.func 63) #[] #[]] 112)
  have HBs : Hid (Calls Try.prog 120 #[v, .int .i64 y, .func (.func 121) #[] #[.pointer (some ⟨w.heap.size, 0, none⟩)]] (w.alloc (.cells #[.func (.func 63) #[] #[]] 112)) fun e w' => e = .returned (.tuple #[.int .i64 (posL PromV.mon y xs : Nat), .bool (hitL PromV.mon y xs)]) ∧ Below (w.alloc (.cells #[.func (.func 63) #[] #[]] 112)).heap.size (w.alloc (.cells #[.func (.func 63) #[] #[]] 112)) w') :=
    Lib.hid (bsP_any w.heap.size v xs y (posL PromV.mon y xs) _ (h.keep hb) (posL_le _ _ _) (fun k hk => posL_iff hr y k hk) hl (fun x u hu => place1P x y w.heap.size u (by
      have hl : w.heap.size < (w.alloc (.cells #[.func (.func 63) #[] #[]] 112)).heap.size := by rw [World.size_alloc]; omega
      rw [hu.cell (p := ⟨w.heap.size, 0, none⟩) hl]
      exact box_cell ha)))
  have HB := Lib.hid hb
  obtain ⟨a, c, rfl⟩ := h.slice
  clear h ha hb
  generalize posL PromV.mon y xs = p at HBs ⊢
  generalize hitL PromV.mon y xs = q at HBs ⊢
  go_enter Try.func100, Try.ntmps100
  go_wp2_with (go_at_call 120; refine HBs.out.mono ?_; rintro e w1 ⟨rfl, hb⟩; have HB1 := Lib.hid (HB.out.trans (hb.mono HB.out.size)); clear hb)
  go_ret2
  exact ⟨rfl, HB1.out⟩

set_option maxHeartbeats 8000000 in
set_option maxRecDepth 100000 in
theorem putP_any (v : Value) (xs : List PromV) (x : PromV) (B : Nat → Prop) (w : World) (h : OwnP prc 6 53 w B v xs) (hB : In B w) (hr : Ris PromV.mon xs) (hl : xs.length ≤ 1100000) :
    Calls Try.prog 71 #[v, .agg (prc x).toArray, .func (.func 63) #[] #[]] w (InsOP B (putL PromV.mon xs x) w) := by
  have HPr := Lib.hid (fun u => promiser_any x u)
  have HPl := Lib.hid (fun u (hu : Below w.heap.size w u) => placeP_any v xs (x.mon) u ((h.1.read prc_len).keep hu) hr hl)
  have hple := posL_le PromV.mon (x.mon) xs
  have HPu : Hid (putL PromV.mon xs x = xs.take (posL PromV.mon (x.mon) xs) ++ x :: xs.drop (if hitL PromV.mon (x.mon) xs then posL PromV.mon (x.mon) xs + 1 else posL PromV.mon (x.mon) xs)) := Lib.hid rfl
  have HHt : Hid (hitL PromV.mon (x.mon) xs = true → posL PromV.mon (x.mon) xs < xs.length) := Lib.hid (fun h => by
    unfold hitL at h
    rcases Nat.lt_or_ge (posL PromV.mon (x.mon) xs) xs.length with h1 | h1
    · exact h1
    · rw [atL_out h1] at h; cases h)
  have HO := Lib.hid h; have HB := Lib.hid hB; have HL := Lib.hid hl
  clear h hB hr hl
  generalize putL PromV.mon xs x = R at HPu ⊢
  generalize posL PromV.mon (x.mon) xs = p at *
  generalize hitL PromV.mon (x.mon) xs = q at *
  obtain ⟨a, cap, rfl⟩ := HO.out.slice
  have HIn : Hid (q = false → ∀ u, Below w.heap.size w u → Calls Try.prog 104 #[.slice a xs.length cap, .int .i64 p, .slice (some ⟨u.heap.size, 0, none⟩) 1 1] (u.alloc (.cells (prc x).toArray 53)) (InsOP B R w)) := Lib.hid (fun hq u hu => by
    have hbn := below_new u (.cells (prc x).toArray 53)
    have hbw := hu.trans (hbn.mono hu.size)
    have hown := HO.out.below hbw
    have hne : (Value.slice a xs.length cap).ownBlock ≠ some u.heap.size := fun e => by
      obtain ⟨-, h4⟩ := HO.out.1.blk _ e
      have := hu.size
      omega
    refine (ins_anyP _ xs x p B _ hown (HB.out.mono hbw.size) u.heap.size 53 (alloc_at u _) hne hple HL.out).mono ?_
    rintro e w' ⟨v', rfl, ho, hk, hf⟩
    refine ⟨v', rfl, ?_, (Kept.of_below (Nat.zero_le _) hbw).trans hk, (Far.of hbw HB.out).trans hf⟩
    rw [HPu.out, hq]
    exact ho)
  have HSt : Hid (q = true → ∀ u, Below w.heap.size w u → ∃ g, a = some ⟨g, 0, none⟩ ∧ u.there g (p * 6) 6 ∧ InsOP B R w (.returned (.slice (some ⟨g, 0, none⟩) xs.length cap)) (u.setCells g (p * 6) (prc x))) := Lib.hid (fun hq u hu => by
    have hlt := HHt.out hq
    rcases HO.out.1.at with ⟨_, e2⟩ | ⟨g, c, e, -, hat⟩
    · rw [e2] at hlt; exact absurd hlt (Nat.not_lt_zero _)
    · obtain ⟨rfl, rfl⟩ : a = some ⟨g, 0, none⟩ ∧ cap = c := by simpa using e
      have hfar := HO.out.2 g rfl
      have hat2 := hat.block (hu.block g hat.lt)
      have hle := hat.le
      refine ⟨g, rfl, hat2.there p (by omega), _, rfl, ⟨?_, HO.out.2⟩, ?_, ?_⟩
      · have h5 := (hat2.set prc_len (by decide) p hlt x).own prc_len (Nat.zero_le _)
        rw [List.length_set] at h5
        have e7 : xs.set p x = xs.take p ++ x :: xs.drop (p + 1) := by rw [List.set_eq_take_append_cons_drop, if_pos hlt]
        rw [e7] at h5
        rw [HPu.out, hq, if_pos rfl]
        exact h5
      · obtain ⟨cur, hgc, -⟩ := hat.ex
        exact kept_set (Kept.of_below (Nat.zero_le _) hu) hgc (Nat.zero_le _) _ _
      · exact (Far.of hu HB.out).setCells hfar _ _)
  have HPb := Lib.hid (fun h => HHt.out h)
  clear HPu HO hple
  have hb0 := below_new w (.cells (prc x).toArray 53)
  have hUs : (w.alloc (.cells (prc x).toArray 53)).heap.size = w.heap.size + 1 := World.size_alloc _ _
  have hx0 := alloc_at w (.cells (prc x).toArray 53)
  have HBe := Lib.hid hb0
  have HXc : Hid (∀ u, Below (w.heap.size + 1) (w.alloc (.cells (prc x).toArray 53)) u → u.cell? ⟨w.heap.size, 0, none⟩ = some (.int .i64 x.mon) ∧ u.cell? ⟨w.heap.size, 1, none⟩ = some (.int .i64 x.n) ∧ u.cell? ⟨w.heap.size, 2, none⟩ = some (.bool x.has) ∧ u.cell? ⟨w.heap.size, 3, none⟩ = some (.int .i64 x.ar) ∧ u.cell? ⟨w.heap.size, 4, none⟩ = some (.int .i64 x.am) ∧ u.cell? ⟨w.heap.size, 5, none⟩ = some (.string x.val)) := Lib.hid (fun u hu => by
    have h2 := (hu.block w.heap.size (by omega)).trans hx0
    refine ⟨?_, ?_, ?_, ?_, ?_, ?_⟩ <;> simp [World.cell?, h2, prc])
  have HUs := Lib.hid hUs
  clear hb0 hUs hx0
  unfold InsOP at *
  have HRe := Lib.hid (Below.refl (w.heap.size + 1) (w.alloc (.cells (prc x).toArray 53)))
  unfold prc at HPr HIn HSt HXc HRe HUs HBe ⊢
  obtain ⟨x0, x1, x2, x3, x4, x5⟩ := HXc.out _ HRe.out
  cases q with
  | false =>
    have HIn1 := Lib.hid (HIn.out rfl)
    clear HSt HPb HHt HIn
    go_enter Try.func71, Try.ntmps71
    go_wp2_with (first
      | (go_at_call 63; refine (HPr.out _).mono ?_; rintro e w1 ⟨rfl, hb⟩; have HU1 := Lib.hid (hb.mono (Nat.le_of_eq HUs.out.symm)); have HB1 := Lib.hid (HBe.out.trans (hb.mono HBe.out.size)); clear hb x0 x1 x2 x3 x4 x5)
      | (go_at_call 100; refine (HPl.out _ HB1.out).mono ?_; rintro e w2 ⟨rfl, hb⟩; have HU2 := Lib.hid (HU1.out.trans (hb.mono (by have := HU1.out.size; have := HUs.out; omega))); have HB2 := Lib.hid (HB1.out.trans (hb.mono HB1.out.size)); clear hb; obtain ⟨x0, x1, x2, x3, x4, x5⟩ := HXc.out _ HU2.out)
      | (go_at_call 104; refine (HIn1.out _ HB2.out).mono ?_; rintro e w3 ⟨v3, rfl, h3⟩; obtain ⟨a3, c3, rfl⟩ := h3.1.slice; have H3 := Lib.hid h3; clear h3 x0 x1 x2 x3 x4 x5))
    go_ret
    exact ⟨_, rfl, H3.out⟩
  | true =>
    have hpl := HPb.out rfl
    have hpi : (p : Int) < (xs.length : Int) := by omega
    have hp0 : (0 : Int) ≤ p := by omega
    have HSt1 := Lib.hid (HSt.out rfl)
    clear HIn HPb HHt HSt
    go_enter Try.func71, Try.ntmps71
    go_wp2_with (first
      | (go_at_call 63; refine (HPr.out _).mono ?_; rintro e w1 ⟨rfl, hb⟩; have HU1 := Lib.hid (hb.mono (Nat.le_of_eq HUs.out.symm)); have HB1 := Lib.hid (HBe.out.trans (hb.mono HBe.out.size)); clear hb x0 x1 x2 x3 x4 x5)
      | (go_at_call 100; refine (HPl.out _ HB1.out).mono ?_; rintro e w2 ⟨rfl, hb⟩; have HU2 := Lib.hid (HU1.out.trans (hb.mono (by have := HU1.out.size; have := HUs.out; omega))); have HB2 := Lib.hid (HB1.out.trans (hb.mono HB1.out.size)); clear hb; obtain ⟨x0, x1, x2, x3, x4, x5⟩ := HXc.out _ HU2.out; obtain ⟨g, hg, hth, hfi⟩ := HSt1.out _ HB2.out; subst hg; have HTh := Lib.hid hth; have HFi := Lib.hid hfi; clear hth hfi)
      | (refine wpList_store_mid rfl 53 _ _ rfl g (p * 6) #[.int .i64 x.mon, .int .i64 x.n, .bool x.has, .int .i64 x.ar, .int .i64 x.am, .string x.val] rfl rfl HTh.out sizePr (by simp [Value.oneCell']) ?_))
    go_ret
    exact HFi.out

set_option maxHeartbeats 4000000 in
set_option maxRecDepth 100000 in
theorem place1I (x : Int) (y : Int) (q : Nat) (u : World) (hq : u.cell? ⟨q, 0, none⟩ = some (.func (.func 59) #[] #[])) : Calls Try.prog 116 #[.int .i64 x, .int .i64 y, .pointer (some ⟨q, 0, none⟩)] u fun e w' => e = .returned (.int .i64 (cmp3 (x) y)) ∧ Below u.heap.size u w' := by
  have HP := Lib.hid (fun v => itself_any x v)
  have HC := Lib.hid (fun a b v => cmp_int a b v)
  go_enter Try.func116, Try.ntmps116
  go_wp2_with (first
    | (go_at_call 59; refine (HP.out _).mono ?_; rintro e w1 ⟨rfl, hb⟩; have HB1 := Lib.hid hb; clear hb)
    | (go_at_call 117; refine (HC.out _ _ _).mono ?_; rintro e w2 ⟨rfl, rfl⟩))
  go_ret
  exact ⟨rfl, HB1.out⟩

set_option maxHeartbeats 4000000 in
set_option maxRecDepth 100000 in
theorem placeI_any (v : Value) (xs : List Int) (y : Int) (w : World) (h : Sl ic 1 w v xs) (hr : Ris (fun z => z) xs) (hl : xs.length ≤ 1100000) :
    Calls Try.prog 98 #[v, .int .i64 y, .func (.func 59) #[] #[]] w fun e w' => e = .returned (.tuple #[.int .i64 (posL (fun z => z) y xs : Nat), .bool (hitL (fun z => z) y xs)]) ∧ Below w.heap.size w w' := by
  have hb := below_new w (.cells #[.func (.func 59) #[] #[]] 39)
  have ha := alloc_at w (.cells #[.func (.func 59) #[] #[]] 39)
  have HBs : Hid (Calls Try.prog 115 #[v, .int .i64 y, .func (.func 116) #[] #[.pointer (some ⟨w.heap.size, 0, none⟩)]] (w.alloc (.cells #[.func (.func 59) #[] #[]] 39)) fun e w' => e = .returned (.tuple #[.int .i64 (posL (fun z => z) y xs : Nat), .bool (hitL (fun z => z) y xs)]) ∧ Below (w.alloc (.cells #[.func (.func 59) #[] #[]] 39)).heap.size (w.alloc (.cells #[.func (.func 59) #[] #[]] 39)) w') :=
    Lib.hid (bsI_any w.heap.size v xs y (posL (fun z => z) y xs) _ (h.keep hb) (posL_le _ _ _) (fun k hk => posL_iff hr y k hk) hl (fun x u hu => place1I x y w.heap.size u (by
      have hl : w.heap.size < (w.alloc (.cells #[.func (.func 59) #[] #[]] 39)).heap.size := by rw [World.size_alloc]; omega
      rw [hu.cell (p := ⟨w.heap.size, 0, none⟩) hl]
      exact box_cell ha)))
  have HB := Lib.hid hb
  obtain ⟨a, c, rfl⟩ := h.slice
  clear h ha hb
  generalize posL (fun z => z) y xs = p at HBs ⊢
  generalize hitL (fun z => z) y xs = q at HBs ⊢
  go_enter Try.func98, Try.ntmps98
  go_wp2_with (go_at_call 115; refine HBs.out.mono ?_; rintro e w1 ⟨rfl, hb⟩; have HB1 := Lib.hid (HB.out.trans (hb.mono HB.out.size)); clear hb)
  go_ret2
  exact ⟨rfl, HB1.out⟩

set_option maxHeartbeats 8000000 in
set_option maxRecDepth 100000 in
theorem putI_any (v : Value) (xs : List Int) (x : Int) (B : Nat → Prop) (w : World) (h : OwnP ic 1 3 w B v xs) (hB : In B w) (hr : Ris (fun z => z) xs) (hl : xs.length ≤ 1100000) :
    Calls Try.prog 58 #[v, .int .i64 x, .func (.func 59) #[] #[]] w (InsOI B (putL (fun z => z) xs x) w) := by
  have HPr := Lib.hid (fun u => itself_any x u)
  have HPl := Lib.hid (fun u (hu : Below w.heap.size w u) => placeI_any v xs (x) u ((h.1.read ic_len).keep hu) hr hl)
  have hple := posL_le (fun z => z) (x) xs
  have HPu : Hid (putL (fun z => z) xs x = xs.take (posL (fun z => z) (x) xs) ++ x :: xs.drop (if hitL (fun z => z) (x) xs then posL (fun z => z) (x) xs + 1 else posL (fun z => z) (x) xs)) := Lib.hid rfl
  have HHt : Hid (hitL (fun z => z) (x) xs = true → posL (fun z => z) (x) xs < xs.length) := Lib.hid (fun h => by
    unfold hitL at h
    rcases Nat.lt_or_ge (posL (fun z => z) (x) xs) xs.length with h1 | h1
    · exact h1
    · rw [atL_out h1] at h; cases h)
  have HO := Lib.hid h; have HB := Lib.hid hB; have HL := Lib.hid hl
  clear h hB hr hl
  generalize putL (fun z => z) xs x = R at HPu ⊢
  generalize posL (fun z => z) (x) xs = p at *
  generalize hitL (fun z => z) (x) xs = q at *
  obtain ⟨a, cap, rfl⟩ := HO.out.slice
  have HIn : Hid (q = false → ∀ u, Below w.heap.size w u → Calls Try.prog 99 #[.slice a xs.length cap, .int .i64 p, .slice (some ⟨u.heap.size, 0, none⟩) 1 1] (u.alloc (.cells (ic x).toArray 3)) (InsOI B R w)) := Lib.hid (fun hq u hu => by
    have hbn := below_new u (.cells (ic x).toArray 3)
    have hbw := hu.trans (hbn.mono hu.size)
    have hown := HO.out.below hbw
    have hne : (Value.slice a xs.length cap).ownBlock ≠ some u.heap.size := fun e => by
      obtain ⟨-, h4⟩ := HO.out.1.blk _ e
      have := hu.size
      omega
    refine (ins_anyI _ xs x p B _ hown (HB.out.mono hbw.size) u.heap.size 3 (alloc_at u _) hne hple HL.out).mono ?_
    rintro e w' ⟨v', rfl, ho, hk, hf⟩
    refine ⟨v', rfl, ?_, (Kept.of_below (Nat.zero_le _) hbw).trans hk, (Far.of hbw HB.out).trans hf⟩
    rw [HPu.out, hq]
    exact ho)
  have HSt : Hid (q = true → ∀ u, Below w.heap.size w u → ∃ g, a = some ⟨g, 0, none⟩ ∧ u.there g (p * 1) 1 ∧ InsOI B R w (.returned (.slice (some ⟨g, 0, none⟩) xs.length cap)) (u.setCells g (p * 1) (ic x))) := Lib.hid (fun hq u hu => by
    have hlt := HHt.out hq
    rcases HO.out.1.at with ⟨_, e2⟩ | ⟨g, c, e, -, hat⟩
    · rw [e2] at hlt; exact absurd hlt (Nat.not_lt_zero _)
    · obtain ⟨rfl, rfl⟩ : a = some ⟨g, 0, none⟩ ∧ cap = c := by simpa using e
      have hfar := HO.out.2 g rfl
      have hat2 := hat.block (hu.block g hat.lt)
      have hle := hat.le
      refine ⟨g, rfl, hat2.there p (by omega), _, rfl, ⟨?_, HO.out.2⟩, ?_, ?_⟩
      · have h5 := (hat2.set ic_len (by decide) p hlt x).own ic_len (Nat.zero_le _)
        rw [List.length_set] at h5
        have e7 : xs.set p x = xs.take p ++ x :: xs.drop (p + 1) := by rw [List.set_eq_take_append_cons_drop, if_pos hlt]
        rw [e7] at h5
        rw [HPu.out, hq, if_pos rfl]
        exact h5
      · obtain ⟨cur, hgc, -⟩ := hat.ex
        exact kept_set (Kept.of_below (Nat.zero_le _) hu) hgc (Nat.zero_le _) _ _
      · exact (Far.of hu HB.out).setCells hfar _ _)
  have HPb := Lib.hid (fun h => HHt.out h)
  clear HPu HO hple
  have HBe := Lib.hid (Below.refl w.heap.size w)
  unfold InsOI at *
  unfold ic at HIn HSt
  cases q with
  | false =>
    have HIn1 := Lib.hid (HIn.out rfl)
    clear HSt HPb HHt HIn
    go_enter Try.func58, Try.ntmps58
    go_wp2_with (first
      | (go_at_call 59; refine (HPr.out _).mono ?_; rintro e w1 ⟨rfl, hb⟩; have HB1 := Lib.hid (HBe.out.trans (hb.mono HBe.out.size)); clear hb)
      | (go_at_call 98; refine (HPl.out _ HB1.out).mono ?_; rintro e w2 ⟨rfl, hb⟩; have HB2 := Lib.hid (HB1.out.trans (hb.mono HB1.out.size)); clear hb)
      | (go_at_call 99; refine (HIn1.out _ HB2.out).mono ?_; rintro e w3 ⟨v3, rfl, h3⟩; obtain ⟨a3, c3, rfl⟩ := h3.1.slice; have H3 := Lib.hid h3; clear h3))
    go_ret
    exact ⟨_, rfl, H3.out⟩
  | true =>
    have hpl := HPb.out rfl
    have hpi : (p : Int) < (xs.length : Int) := by omega
    have hp0 : (0 : Int) ≤ p := by omega
    have HSt1 := Lib.hid (HSt.out rfl)
    clear HIn HPb HHt HSt
    go_enter Try.func58, Try.ntmps58
    go_wp2_with (first
      | (go_at_call 59; refine (HPr.out _).mono ?_; rintro e w1 ⟨rfl, hb⟩; have HB1 := Lib.hid (HBe.out.trans (hb.mono HBe.out.size)); clear hb)
      | (go_at_call 98; refine (HPl.out _ HB1.out).mono ?_; rintro e w2 ⟨rfl, hb⟩; have HB2 := Lib.hid (HB1.out.trans (hb.mono HB1.out.size)); clear hb; obtain ⟨g, hg, hth, hfi⟩ := HSt1.out _ HB2.out; subst hg; have hth0 := hth 0 (by decide); obtain ⟨hs1, hs2⟩ := hth0; obtain ⟨u0, hs3⟩ := Option.isSome_iff_exists.1 hs1; rw [Nat.mul_one, Nat.add_zero] at hs2 hs3; rw [Nat.mul_one] at hfi; have HFi := Lib.hid hfi; clear hth hfi hs1))
    go_ret
    exact HFi.out
end Go.Proofs.Ytcofmfjhgbihkaa.crush
