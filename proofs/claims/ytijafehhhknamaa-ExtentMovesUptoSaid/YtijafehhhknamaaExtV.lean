/- Sectors taken. -/
import Derived.Test.YtijafehhhknamaaRows
import Derived.Test.YtijafehhhknamaaExtU
import Derived.Deep.RegionHeld3
import Derived.StillTailTactics
namespace Go.Proofs.Ytijafehhhknamaa.ext
open Go.RowKit Go.Sort
open Go.Proofs.Ytijafehhhknamaa.kit Go.Proofs.Ytijafehhhknamaa.own
set_option linter.unusedVariables false

/-- The first extent with enough, or the first one. -/
def fromE (n : Int) (xs : List Wy) : Nat := (xs.findIdx? (fun x => decide (n ≤ x.2))).getD 0
/-- What is taken, what is left, and the error. -/
def takeE (n : Int) (xs : List Wy) : List Wy × List Wy × Int :=
  if n < 0 then ([], xs, 20) else if sumE xs < n then ([], xs, 23) else if n = 0 then ([], xs, 0) else
    ((splitE (xs.drop (fromE n xs)) n).1, xs.take (fromE n xs) ++ (splitE (xs.drop (fromE n xs)) n).2, 0)
/-- What Take tells. -/
def TakeS (w : World) (r : List Wy × List Wy × Int) (e : Ending) (w' : World) : Prop := ∃ v1 v2, e = .returned (.tuple #[v1, v2, .int .i64 r.2.2]) ∧ Own wc 2 48 w' w.heap.size v1 r.1 ∧ Own wc 2 48 w' w.heap.size v2 r.2.1 ∧ Below w.heap.size w w'
theorem sumE_ge {xs : List Wy} (h : ∀ x ∈ xs, 0 ≤ x.2) {i : Nat} (hi : i < xs.length) : xs[i].2 ≤ sumE (xs.drop i) := by
  rw [List.drop_eq_getElem_cons hi, sumE]
  have := sumE_nonneg (xs.drop (i + 1)) (fun y hy => h y (List.mem_of_mem_drop hy))
  omega
theorem fromE_none {n : Int} {xs : List Wy} (h : ∀ x ∈ xs, x.2 < n) : fromE n xs = 0 := by
  unfold fromE
  rw [List.findIdx?_eq_none_iff.2 (fun x hx => by have := h x hx; simp; omega)]
  rfl
theorem fromE_some {n : Int} {xs : List Wy} {i : Nat} (hi : i < xs.length) (h : n ≤ xs[i].2) (hb : ∀ j (hj : j < i), (xs[j]'(by omega)).2 < n) : fromE n xs = i := by
  unfold fromE
  rw [List.findIdx?_eq_some_iff_getElem.2 ⟨hi, by simpa using h, fun j hj => by have := hb j hj; simp; omega⟩]
  rfl
theorem take_sl {W : World} {b off L cap j : Nat} {xs : List Wy} (h : Sl wc 2 W (.slice (some ⟨b, off, none⟩) L cap) xs) (hL : xs.length = L) (hj : j ≤ L) : Sl wc 2 W (.slice (some ⟨b, off, none⟩) j cap) (xs.take j) := by
  subst hL
  obtain ⟨hl, a, c, he, hn, hcell⟩ := h
  cases he
  have e1 : (xs.take j).length = j := by rw [List.length_take]; omega
  refine ⟨by omega, some ⟨b, off, none⟩, cap, by rw [e1], (fun h => by cases h), fun h0 => ?_⟩
  rw [e1] at h0
  obtain ⟨b', off', e, hb, hcell⟩ := hcell (by omega)
  cases e
  refine ⟨b, _, rfl, hb, fun i hi => ?_⟩
  have h2 := hcell i (by rw [List.length_take] at hi; omega)
  rw [List.getElem_take]
  exact h2
theorem sub_sl0 {W : World} {b off L cap j : Nat} {xs : List Wy} (h : Sl wc 2 W (.slice (some ⟨b, off, none⟩) L cap) xs) (hL : xs.length = L) (hj : j < L) : Sl wc 2 W (.slice (some ⟨b, off + j * 2, none⟩) (xs.drop j).length (cap - j)) (xs.drop j) := by
  subst hL
  obtain ⟨hl, a, c, he, hn, hcell⟩ := h
  cases he
  have e1 : (xs.drop j).length = xs.length - j := List.length_drop
  refine ⟨by omega, some ⟨b, off + j * 2, none⟩, cap - j, rfl, (fun h => by cases h), fun h0 => ?_⟩
  rw [e1] at h0
  obtain ⟨b', off', e, hb, hcell⟩ := hcell (by omega)
  cases e
  refine ⟨b, _, rfl, hb, fun i hi => ?_⟩
  have h2 := hcell (j + i) (by omega)
  rw [List.getElem_drop]
  have e2 : off + j * 2 + i * 2 = off + (j + i) * 2 := by omega
  rw [e2]
  exact h2
theorem splitE_len : ∀ (xs : List Wy) (n : Int), (splitE xs n).2.length ≤ xs.length
  | [], _ => by simp [splitE]
  | x :: r, n => by
    rw [splitE]
    split
    · have := splitE_len r (n - x.2); simp only [List.length_cons]; omega
    · split
      · simp
      · simp
/-- A number as IndexFunc tells it. -/
theorem idx_from {w w' : World} {n : Int} {xs : List Wy} {e : Ending} (h : IdxS w n xs e w') (hl : 0 < xs.length) (h0 : ∀ x ∈ xs, 0 ≤ x.2) (hs : n ≤ sumE xs) :
    Below w.heap.size w w' ∧ ∃ z : Int, e = .returned (.int .i64 z) ∧ max z 0 = (fromE n xs : Int) ∧ fromE n xs < xs.length ∧ n ≤ sumE (xs.drop (fromE n xs)) := by
  obtain ⟨hb, ⟨h1, rfl⟩ | ⟨i, hi, h1, h2, rfl⟩⟩ := h
  · refine ⟨hb, -1, rfl, ?_, ?_, ?_⟩
    · rw [fromE_none h1]; rfl
    · rw [fromE_none h1]; exact hl
    · rw [fromE_none h1]; exact hs
  · refine ⟨hb, i, rfl, ?_, ?_, ?_⟩
    · rw [fromE_some hi h1 h2]; omega
    · rw [fromE_some hi h1 h2]; exact hi
    · rw [fromE_some hi h1 h2]
      have := sumE_ge h0 hi
      omega

set_option maxHeartbeats 8000000 in
set_option maxRecDepth 100000 in
theorem Take_any (a : Option Addr) (cap : Nat) (xs : List Wy) (n : Int) (w : World) (h : Sl wc 2 w (.slice a xs.length cap) xs) (hcap : xs.length ≤ cap) (hcm : cap ≤ maxLen) (hf : ∀ x ∈ xs, Fine x) (hs : sumE xs ≤ 65536) (hlen : (xs.length + 2) * 16 ≤ 140737488355328) :
    Calls Try.prog 13 #[.slice a xs.length cap, .int .i64 n] w (TakeS w (takeE n xs)) := by
  have hl := h.1
  have mixed : Try.prog.follows .mixedOrders = true := by kernel_rfl
  have hbN := below_new w (.cells #[.int .i64 n] 3)
  have hcN : (w.alloc (.cells #[.int .i64 n] 3)).cell? ⟨w.heap.size, 0, none⟩ = some (.int .i64 n) := by rw [World.cell?_alloc_at _ _ _ _ rfl]; rfl
  have HS := Lib.hid (h.keep hbN); have HFn := Lib.hid hf; have HB0 := Lib.hid hbN; have HSum := Lib.hid hs
  have hcap16 : xs.length * 16 ≤ 140737488355328 := by omega
  have HL16 := Lib.hid hcap16
  have HLn := Lib.hid hlen
  have h0x : ∀ x ∈ xs, 0 ≤ x.2 := fun x hx => by have := hf x hx; unfold Fine at this; omega
  have H0x := Lib.hid h0x
  clear hbN hf hs hlen h0x hcap16 h
  by_cases h1 : n < 0
  · have HE : Hid (takeE n xs = ([], xs, 20)) := Lib.hid (by rw [takeE, if_pos h1])
    rw [HE.out]
    go_enter Try.func13, Try.ntmps13
    go_upto_region 2 with fail
    generalize w.alloc (.cells #[.int .i64 n] 3) = W at HS HB0 hcN ⊢
    clear hcN
    go_wp2_with (go_at_call 26; refine (cloneW_any _ xs _ HS.out HL16.out).mono ?_; rintro e w4 ⟨v4, rfl, ho4, hb4⟩; have HO4 := Lib.hid (ho4.mono HB0.out.size); have HB4 := Lib.hid (HB0.out.trans (hb4.mono HB0.out.size)); clear ho4 hb4)
    go_ret3
    exact ⟨_, _, rfl, Own.nil _ _ _, HO4.out, HB4.out⟩
  have HC := Lib.hid (fun (W : World) (hS : Sl wc 2 W (.slice a xs.length cap) xs) => Count_any (.slice a xs.length cap) xs W hS H0x.out HSum.out)
  by_cases h2 : sumE xs < n
  · have HE : Hid (takeE n xs = ([], xs, 23)) := Lib.hid (by rw [takeE, if_neg h1, if_pos h2])
    rw [HE.out]
    go_enter Try.func13, Try.ntmps13
    go_upto_region 3 with fail
    generalize w.alloc (.cells #[.int .i64 n] 3) = W at HS HB0 hcN ⊢
    obtain ⟨N, hN⟩ : ∃ N, w.heap.size = N := ⟨_, rfl⟩
    rw [hN] at hcN ⊢
    clear hN
    have HWd := Lib.hid (below_drew (Below.refl W.heap.size W)); have HB0d := Lib.hid (below_drew HB0.out)
    go_region_held3 (fun u => u.cell? ⟨N, 0, none⟩ = some (.int .i64 n))
      (first | exact hcN | exact ((HWd.out.trans hb4).cell (p := ⟨N, 0, none⟩) (cell_lt hcN)).trans hcN)
      (first
        | (go_at_call 19; refine (HC.out W.drew (HS.out.keep HWd.out)).mono ?_; rintro e w4 ⟨rfl, hb4⟩; have HB4 := Lib.hid (HB0d.out.trans (hb4.mono HB0d.out.size))))
    have hc4 : w4.cell? ⟨N, 0, none⟩ = some (.int .i64 n) := ((HWd.out.trans hb4).cell (p := ⟨N, 0, none⟩) (cell_lt hcN)).trans hcN
    have HS4 := Lib.hid (HS.out.keep (HWd.out.trans hb4))
    clear hcN hb4
    go_wp2_with (go_at_call 26; refine (cloneW_any _ xs _ HS4.out HL16.out).mono ?_; rintro e w5 ⟨v5, rfl, ho5, hb5⟩; have HO5 := Lib.hid (ho5.mono HB4.out.size); have HB5 := Lib.hid (HB4.out.trans (hb5.mono HB4.out.size)); clear ho5 hb5)
    go_ret3
    exact ⟨_, _, rfl, Own.nil _ _ _, HO5.out, HB5.out⟩
  have h2' : ¬ sumE xs < n := h2
  by_cases h3 : n = 0
  · have HE : Hid (takeE n xs = ([], xs, 0)) := Lib.hid (by rw [takeE, if_neg h1, if_neg h2, if_pos h3])
    rw [HE.out]
    subst h3
    go_enter Try.func13, Try.ntmps13
    go_upto_region 3 with fail
    generalize w.alloc (.cells #[.int .i64 0] 3) = W at HS HB0 hcN ⊢
    obtain ⟨N, hN⟩ : ∃ N, w.heap.size = N := ⟨_, rfl⟩
    rw [hN] at hcN ⊢
    clear hN
    have HWd := Lib.hid (below_drew (Below.refl W.heap.size W)); have HB0d := Lib.hid (below_drew HB0.out)
    go_region_held3 (fun u => u.cell? ⟨N, 0, none⟩ = some (.int .i64 0))
      (first | exact hcN | exact ((HWd.out.trans hb4).cell (p := ⟨N, 0, none⟩) (cell_lt hcN)).trans hcN)
      (first
        | (go_at_call 19; refine (HC.out W.drew (HS.out.keep HWd.out)).mono ?_; rintro e w4 ⟨rfl, hb4⟩; have HB4 := Lib.hid (HB0d.out.trans (hb4.mono HB0d.out.size))))
    have hc4 : w4.cell? ⟨N, 0, none⟩ = some (.int .i64 0) := ((HWd.out.trans hb4).cell (p := ⟨N, 0, none⟩) (cell_lt hcN)).trans hcN
    have HS4 := Lib.hid (HS.out.keep (HWd.out.trans hb4))
    clear hcN hb4
    go_wp2_with (go_at_call 26; refine (cloneW_any _ xs _ HS4.out HL16.out).mono ?_; rintro e w5 ⟨v5, rfl, ho5, hb5⟩; have HO5 := Lib.hid (ho5.mono HB4.out.size); have HB5 := Lib.hid (HB4.out.trans (hb5.mono HB4.out.size)); clear ho5 hb5)
    go_ret3
    exact ⟨_, _, rfl, Own.nil _ _ _, HO5.out, HB5.out⟩
  · have HE : Hid (takeE n xs = ((splitE (xs.drop (fromE n xs)) n).1, xs.take (fromE n xs) ++ (splitE (xs.drop (fromE n xs)) n).2, 0)) := Lib.hid (by rw [takeE, if_neg h1, if_neg h2, if_neg h3])
    rw [HE.out]
    have hn0 : True → (n == 0) = false := fun _ => by simp [h3]
    have hlp : 0 < xs.length := by
      rcases Nat.eq_zero_or_pos xs.length with h | h
      · obtain rfl : xs = [] := List.eq_nil_of_length_eq_zero h
        simp only [sumE] at h2
        omega
      · exact h
    have HLp := Lib.hid hlp
    have HN1 := Lib.hid (show 1 ≤ n ∧ n ≤ 65536 by have := HSum.out; omega)
    have HNs := Lib.hid (show n ≤ sumE xs by omega)
    clear hlp
    go_enter Try.func13, Try.ntmps13
    go_upto_region 3 with fail
    generalize w.alloc (.cells #[.int .i64 n] 3) = W at HS HB0 hcN ⊢
    obtain ⟨N, hN⟩ : ∃ N, w.heap.size = N := ⟨_, rfl⟩
    rw [hN] at hcN ⊢
    clear hN
    have HWd := Lib.hid (below_drew (Below.refl W.heap.size W)); have HB0d := Lib.hid (below_drew HB0.out)
    go_region_held3 (fun u => u.cell? ⟨N, 0, none⟩ = some (.int .i64 n))
      (first | exact hcN | exact ((HWd.out.trans hb4).cell (p := ⟨N, 0, none⟩) (cell_lt hcN)).trans hcN)
      (first
        | (go_at_call 19; refine (HC.out W.drew (HS.out.keep HWd.out)).mono ?_; rintro e w4 ⟨rfl, hb4⟩; have HB4 := Lib.hid (HB0d.out.trans (hb4.mono HB0d.out.size))))
    have hc4 : w4.cell? ⟨N, 0, none⟩ = some (.int .i64 n) := ((HWd.out.trans hb4).cell (p := ⟨N, 0, none⟩) (cell_lt hcN)).trans hcN
    have HS4 := Lib.hid (HS.out.keep (HWd.out.trans hb4))
    clear hcN hb4
    go_upto_region 8 with fail
    go_wp2_with fail
    refine (idx_any _ xs N n _ HS4.out hc4).mono ?_
    rintro e w5 h5
    obtain ⟨hb5, z, rfl, hz, hfr, hfs⟩ := idx_from h5 HLp.out H0x.out HNs.out
    clear h5
    obtain ⟨fr, hfe⟩ : ∃ fr, fromE n xs = fr := ⟨_, rfl⟩
    have HFe := Lib.hid hfe
    rw [hfe] at hz hfr hfs
    have hc5 := (hb5.cell (p := ⟨N, 0, none⟩) (cell_lt hc4)).trans hc4
    have HB5 := Lib.hid (HB4.out.trans (hb5.mono HB4.out.size))
    have HS5 := Lib.hid (HS4.out.keep hb5)
    have HFs := Lib.hid hfs
    obtain ⟨L, hL⟩ : ∃ L, xs.length = L := ⟨_, rfl⟩
    have HL := Lib.hid hL
    rw [hL] at HS5 hcap hfr ⊢
    clear hc4 hb5 hfs hfe hL hl HS4 HS
    obtain ⟨b, off, rfl⟩ : ∃ b off, a = some ⟨b, off, none⟩ := by
      have hs := HS5.out
      rw [← HL.out] at hs
      obtain ⟨_, a', cap', he, -, hcell⟩ := hs
      cases he
      obtain ⟨b, off, e, _⟩ := hcell (by rw [HL.out]; omega)
      exact ⟨b, off, e⟩
    have hfrL : (fr : Int) < L := by omega
    have hfr0 : (0 : Int) ≤ fr := by omega
    have hfrc : (fr : Int) ≤ cap := by omega
    have hfrl : (fr : Int) ≤ L := by omega
    have hfc : fr < cap := by omega
    have hfL : fr ≤ L := by omega
    have hne : ¬ cap = fr := by omega
    have HSb := Lib.hid (sub_sl0 HS5.out HL.out (by omega : fr < L))
    have HTk := Lib.hid (take_sl HS5.out HL.out hfL)
    have hlen' : (xs.drop fr).length = L - fr := by rw [List.length_drop, HL.out]
    have HLd := Lib.hid hlen'
    rw [hlen'] at HSb
    have HSpl : Hid (∀ W, Below w5.heap.size w5 W → Calls Try.prog 29 #[.slice (some ⟨b, off + fr * 2, none⟩) (L - fr) (cap - fr), .int .i64 n] W (SplitS W (splitE (xs.drop fr) n))) := Lib.hid (fun W hW => by
      have := split_any (some ⟨b, off + fr * 2, none⟩) (cap - fr) (xs.drop fr) n W (by rw [HLd.out]; exact HSb.out.keep hW) (by rw [HLd.out]; omega) (by omega) (fun x hx => HFn.out x (List.mem_of_mem_drop hx)) HN1.out HFs.out (by have := HLn.out; have := HL.out; rw [HLd.out]; omega)
      rwa [HLd.out] at this)
    have HWd := Lib.hid (below_drew (Below.refl w5.heap.size w5)); have HB5d := Lib.hid (below_drew HB5.out)
    clear hlen'
    go_upto_region 9 with fail
    go_region_held3 (fun u => u.cell? ⟨N, 0, none⟩ = some (.int .i64 n))
      (first | exact hc5 | exact ((HWd.out.trans hb6).cell (p := ⟨N, 0, none⟩) (cell_lt hc5)).trans hc5)
      (first
        | (go_at_call 29; refine (HSpl.out w5.drew HWd.out).mono ?_; rintro e w6 ⟨v1, v2, rfl, ho1, ho2, hb6⟩; have HB6 := Lib.hid (HB5d.out.trans (hb6.mono HB5d.out.size)); have HO1 := Lib.hid (ho1.mono HB5d.out.size); have HO2 := Lib.hid ho2))
    have HTk6 := Lib.hid (HTk.out.keep (HWd.out.trans hb6))
    obtain ⟨x2, y2, rfl⟩ := ho2.slice
    clear ho1 ho2 hb6 hc5
    have HS2 := Lib.hid (HO2.out.read wc_len)
    have HLc : Hid (((xs.take fr).length + (splitE (xs.drop fr) n).2.length) * 16 ≤ 140737488355328) := Lib.hid (by
      have h1 := (splitE_len (xs.drop fr) n)
      have h2 := HLd.out; have h3 := HLn.out; have h4 := HL.out
      rw [List.length_take]
      omega)
    obtain ⟨sp, hsp⟩ : ∃ sp, splitE (xs.drop fr) n = sp := ⟨_, rfl⟩
    have HSp := Lib.hid hsp
    rw [hsp] at HO1 HO2 HS2 HLc ⊢
    clear hsp
    obtain ⟨l2, hl2⟩ : ∃ l2, sp.2.length = l2 := ⟨_, rfl⟩
    rw [hl2] at HO2 HS2 ⊢
    clear hl2
    have HbA := Lib.hid (below_new w6 (.cells #[.slice (some ⟨b, off, none⟩) fr cap, .slice x2 l2 y2] 22))
    have HTk7 := Lib.hid (HTk6.out.keep HbA.out); have HS27 := Lib.hid (HS2.out.keep HbA.out)
    have hc0 : (w6.alloc (.cells #[.slice (some ⟨b, off, none⟩) fr cap, .slice x2 l2 y2] 22)).cell? ⟨w6.heap.size, 0, none⟩ = some (.slice (some ⟨b, off, none⟩) fr cap) := by rw [World.cell?_alloc_at _ _ _ _ rfl]; rfl
    have hc1 : (w6.alloc (.cells #[.slice (some ⟨b, off, none⟩) fr cap, .slice x2 l2 y2] 22)).cell? ⟨w6.heap.size, 1, none⟩ = some (.slice x2 l2 y2) := by rw [World.cell?_alloc_at _ _ _ _ rfl]; rfl
    have HC0 := Lib.hid hc0; have HC1 := Lib.hid hc1
    have HB7 := Lib.hid (HB6.out.trans (HbA.out.mono HB6.out.size))
    have HO17 := Lib.hid (HO1.out.below HbA.out)
    clear hc0 hc1
    go_wp2_with (go_at_call 30; refine (concatW_any w6.heap.size _ _ (xs.take fr) sp.2 _ HTk7.out HS27.out HC0.out HC1.out HLc.out).mono ?_; rintro e w8 ⟨v8, rfl, ho8, hb8⟩; have HO8 := Lib.hid (ho8.mono HB7.out.size); have HB8 := Lib.hid (HB7.out.trans (hb8.mono HB7.out.size)); have HO18 := Lib.hid (HO17.out.below hb8); clear ho8 hb8)
    go_ret3
    exact ⟨_, _, rfl, by rw [HFe.out, HSp.out]; exact HO18.out, by rw [HFe.out, HSp.out]; exact HO8.out, HB8.out⟩

end Go.Proofs.Ytijafehhhknamaa.ext
