/- The document's Take. -/
import Derived.Test.YtijafehhhknamaaRows
import Derived.Test.YtijafehhhknamaaExtV
import Derived.Test.YtijafehhhknamaaExtMath2
namespace Go.Proofs.Ytijafehhhknamaa.ext
open Go.RowKit Go.Sort
open Go.Proofs.Ytijafehhhknamaa.kit Go.Proofs.Ytijafehhhknamaa.own
set_option linter.unusedVariables false

/-- One extent, as the document takes. -/
def refStep (wh : Int) (i : Nat) (s : Int × List Wy × List Wy) (x : Wy) : Int × List Wy × List Wy :=
  let k := if wh < 0 ∨ wh = i then min s.1 x.2 else 0
  (s.1 - k, (if 0 < k then s.2.1 ++ [(x.1, k)] else s.2.1), if k < x.2 then s.2.2 ++ [(x.1 + k, x.2 - k)] else s.2.2)
def refRun (wh : Int) : Nat → Int × List Wy × List Wy → List Wy → Int × List Wy × List Wy
  | _, s, [] => s
  | i, s, x :: r => refRun wh (i + 1) (refStep wh i s x) r
theorem refStep_zero (wh : Int) (i : Nat) (t l : List Wy) (x : Wy) (hx : 1 ≤ x.2) : refStep wh i (0, t, l) x = (0, t, l ++ [x]) := by
  have hk : (if wh < 0 ∨ wh = i then min (0 : Int) x.2 else 0) = 0 := by
    split
    · omega
    · rfl
  unfold refStep
  simp only [hk]
  rw [if_neg (by omega), if_pos (by omega)]
  simp
theorem refStep_other (wh : Int) (i : Nat) (n : Int) (t l : List Wy) (x : Wy) (hx : 1 ≤ x.2) (h : ¬ (wh < 0 ∨ wh = i)) : refStep wh i (n, t, l) x = (n, t, l ++ [x]) := by
  unfold refStep
  simp only [if_neg h]
  rw [if_neg (by omega), if_pos (by omega)]
  simp
theorem refStep_all (wh : Int) (i : Nat) (n : Int) (t l : List Wy) (x : Wy) (hx : 1 ≤ x.2) (h : wh < 0 ∨ wh = i) (hn : x.2 ≤ n) : refStep wh i (n, t, l) x = (n - x.2, t ++ [x], l) := by
  have hk : min n x.2 = x.2 := by omega
  unfold refStep
  simp only [if_pos h, hk]
  rw [if_pos (by omega), if_neg (by omega)]
theorem refStep_some (wh : Int) (i : Nat) (n : Int) (t l : List Wy) (x : Wy) (h : wh < 0 ∨ wh = i) (h1 : 1 ≤ n) (hn : n < x.2) : refStep wh i (n, t, l) x = (0, t ++ [(x.1, n)], l ++ [(x.1 + n, x.2 - n)]) := by
  have hk : min n x.2 = n := by omega
  unfold refStep
  simp only [if_pos h, hk]
  rw [if_pos (by omega), if_pos (by omega), Int.sub_self]
theorem refRun_zero (wh : Int) : ∀ (xs : List Wy) (i : Nat) (t l : List Wy), (∀ x ∈ xs, 1 ≤ x.2) → refRun wh i (0, t, l) xs = (0, t, l ++ xs)
  | [], i, t, l, _ => by simp [refRun]
  | x :: r, i, t, l, h => by
    rw [refRun, refStep_zero wh i t l x (h x (List.mem_cons_self ..)), refRun_zero wh r (i + 1) t (l ++ [x]) (fun y hy => h y (List.mem_cons_of_mem _ hy)), List.append_assoc]
    rfl
theorem refRun_split (wh : Int) : ∀ (xs : List Wy) (i : Nat) (n : Int) (t l : List Wy), (∀ x ∈ xs, 1 ≤ x.2) → 1 ≤ n → n ≤ sumE xs → (wh < 0 ∨ (wh = i ∧ ∃ x r, xs = x :: r ∧ n ≤ x.2)) → refRun wh i (n, t, l) xs = (0, t ++ (splitE xs n).1, l ++ (splitE xs n).2)
  | [], i, n, t, l, _, h1, h2, _ => by simp only [sumE] at h2; omega
  | x :: r, i, n, t, l, h, h1, h2, hw => by
    have hx := h x (List.mem_cons_self ..)
    have hr : ∀ y ∈ r, 1 ≤ y.2 := fun y hy => h y (List.mem_cons_of_mem _ hy)
    have hc : wh < 0 ∨ wh = i := hw.imp id (·.1)
    rw [refRun, splitE]
    by_cases c1 : x.2 < n
    · have hw' : wh < 0 := by
        rcases hw with h | ⟨_, y, s, he, hy⟩
        · exact h
        · cases he; omega
      rw [if_pos c1, refStep_all wh i n t l x hx hc (by omega), refRun_split wh r (i + 1) (n - x.2) _ _ hr (by omega) (by simp only [sumE] at h2; omega) (.inl hw')]
      simp
    · rw [if_neg c1]
      by_cases c2 : x.2 = n
      · rw [if_pos c2, refStep_all wh i n t l x hx hc (by omega), c2, Int.sub_self, refRun_zero wh r _ _ _ hr]
      · rw [if_neg c2, refStep_some wh i n t l x hc h1 (by omega), refRun_zero wh r _ _ _ hr]
        simp
theorem refRun_skip (wh : Int) : ∀ (xs : List Wy) (m i : Nat) (n : Int) (t l : List Wy), (∀ x ∈ xs, 1 ≤ x.2) → 0 ≤ wh → wh = (i + m : Nat) → m ≤ xs.length → refRun wh i (n, t, l) xs = refRun wh (i + m) (n, t, l ++ xs.take m) (xs.drop m)
  | xs, 0, i, n, t, l, _, _, _, _ => by simp
  | [], m + 1, i, n, t, l, _, _, _, h => by simp at h
  | x :: r, m + 1, i, n, t, l, hp, h0, hw, hm => by
    have hx := hp x (List.mem_cons_self ..)
    rw [refRun, refStep_other wh i n t l x hx (by omega), refRun_skip wh r m (i + 1) n t _ (fun y hy => hp y (List.mem_cons_of_mem _ hy)) h0 (by omega) (by simpa using hm)]
    rw [show i + 1 + m = i + (m + 1) by omega]
    simp
/-- What the document's loops make is what the program's make. -/
theorem refRun_take (xs : List Wy) (n wh : Int) (hp : ∀ x ∈ xs, 1 ≤ x.2) (h1 : 1 ≤ n) (hs : n ≤ sumE xs)
    (hw : (wh = -1 ∧ ∀ x ∈ xs, x.2 < n) ∨ ∃ (m : Nat) (h : m < xs.length), wh = m ∧ n ≤ xs[m].2 ∧ ∀ j (hj : j < m), (xs[j]'(by omega)).2 < n) :
    (refRun wh 0 (n, [], []) xs).2 = ((splitE (xs.drop (fromE n xs)) n).1, xs.take (fromE n xs) ++ (splitE (xs.drop (fromE n xs)) n).2) := by
  rcases hw with ⟨rfl, hw⟩ | ⟨m, hm, rfl, hge, hlt⟩
  · rw [fromE_none hw, refRun_split (-1) xs 0 n [] [] hp h1 hs (.inl (by omega))]
    rfl
  · rw [fromE_some hm hge hlt, refRun_skip (m : Int) xs m 0 n [] [] hp (by omega) (by simp) (by omega)]
    have hd : xs.drop m = xs[m] :: xs.drop (m + 1) := List.drop_eq_getElem_cons hm
    have h0 : ∀ x ∈ xs, 0 ≤ x.2 := fun x hx => by have := hp x hx; omega
    rw [refRun_split (m : Int) (xs.drop m) (0 + m) n [] _ (fun x hx => hp x (List.mem_of_mem_drop hx)) h1 (by have := sumE_ge h0 hm; omega) (.inr ⟨by simp, xs[m], _, hd, hge⟩)]
    simp

theorem row_sum : ∀ (xs : List Wy), (∀ x ∈ xs, 1 ≤ x.2) → (xs.length : Int) ≤ sumE xs
  | [], _ => by simp [sumE]
  | x :: r, h => by
    have h1 := h x (List.mem_cons_self ..)
    have h2 := row_sum r (fun y hy => h y (List.mem_cons_of_mem _ hy))
    simp only [sumE, List.length_cons]
    omega
/-- Two rows that begin with unlike sectors lie apart. -/
theorem own_apart {w : World} {e B : Nat} {v1 v2 : Value} {xs ys : List Wy} (h1 : Own wc 2 e w B v1 xs) (h2 : Own wc 2 e w B v2 ys) (n1 : xs = [] → v1 = .slice none 0 0) (n2 : ys = [] → v2 = .slice none 0 0) (ha : ∀ a ∈ xs, ∀ b ∈ ys, a.1 ≠ b.1) :
    (v1.ownBlock = none ∨ v1.ownBlock ≠ v2.ownBlock) ∧ (v2.ownBlock = none ∨ v2.ownBlock ≠ v1.ownBlock) := by
  rcases h1.at with ⟨rfl, _⟩ | ⟨g, c, rfl, _, a1⟩
  · refine ⟨.inl rfl, ?_⟩
    rcases h2.at with ⟨rfl, _⟩ | ⟨g, c, rfl, _, a2⟩
    · exact .inl rfl
    · exact .inr (fun e => by cases e)
  · rcases h2.at with ⟨rfl, _⟩ | ⟨g', c', rfl, _, a2⟩
    · exact ⟨.inr (fun e => by cases e), .inl rfl⟩
    · have l1 : 0 < xs.length := by
        rcases Nat.eq_zero_or_pos xs.length with h | h
        · have := n1 (List.eq_nil_of_length_eq_zero h)
          cases this
        · exact h
      have l2 : 0 < ys.length := by
        rcases Nat.eq_zero_or_pos ys.length with h | h
        · have := n2 (List.eq_nil_of_length_eq_zero h)
          cases this
        · exact h
      have hne : g ≠ g' := by
        rintro rfl
        have e1 := (ocells_at a1 0 l1).1
        have e2 := (ocells_at a2 0 l2).1
        rw [e1] at e2
        have : xs[0].1 = ys[0].1 := by simpa using e2
        exact ha _ (List.getElem_mem l1) _ (List.getElem_mem l2) this
      constructor
      · refine .inr (fun e => hne ?_)
        simpa [Value.ownBlock] using e
      · refine .inr (fun e => hne ?_)
        have : g' = g := by simpa [Value.ownBlock] using e
        exact this.symm
theorem Own.stay {w u w' : World} {e B : Nat} {v1 v2 : Value} {ys : List Wy} (h2 : Own wc 2 e w B v2 ys) (hu : Below w.heap.size w u) (hg : u.grownBy w' v1.ownBlock) (hd : v2.ownBlock = none ∨ v2.ownBlock ≠ v1.ownBlock) : Own wc 2 e w' B v2 ys := World.ownsRow.kept (h2.below hu) hg hd

set_option maxHeartbeats 16000000 in
set_option maxRecDepth 100000 in
theorem rTake_any (v : Value) (xs : List Wy) (n : Int) (w : World) (h : Sl wc 2 w v xs) (hf : ∀ x ∈ xs, Fine x) (hg : Gap xs) (hs : sumE xs ≤ 65536) (hn64 : -9223372036854775808 ≤ n ∧ n ≤ 9223372036854775807) (hlen : (xs.length + 2) * 16 ≤ 140737488355328) :
    Calls Try.prog 14 #[v, .int .i64 n] w (TakeS w (takeE n xs)) := by
  obtain ⟨hl, a, cap, rfl, -, -⟩ := id h
  have hcap16 : xs.length * 16 ≤ 140737488355328 := by omega
  have h0x : ∀ x ∈ xs, 0 ≤ x.2 := fun x hx => by have := hf x hx; unfold Fine at this; omega
  have h1x : ∀ x ∈ xs, 1 ≤ x.2 := fun x hx => by have := hf x hx; unfold Fine at this; omega
  have HS := Lib.hid h; have HFn := Lib.hid hf; have HSum := Lib.hid hs; have HL16 := Lib.hid hcap16; have H0x := Lib.hid h0x; have H1x := Lib.hid h1x; have HGp := Lib.hid hg
  have HC := Lib.hid (rCount_any (.slice a xs.length cap) xs w h h0x hs)
  have HCp := Lib.hid (fun (W : World) (hW : Below w.heap.size w W) => rcopied_any (.slice a xs.length cap) xs W (HS.out.keep hW) HL16.out)
  clear hf hs hlen h0x h1x hcap16 h hg
  by_cases h1 : n < 0
  · have HE : Hid (takeE n xs = ([], xs, 20)) := Lib.hid (by rw [takeE, if_pos h1])
    rw [HE.out]
    go_enter Try.func14, Try.ntmps14
    go_wp2_with (go_at_call 31; refine (HCp.out _ (Below.refl _ _)).mono ?_; rintro e w4 ⟨v4, rfl, ho4, hb4⟩; have HO4 := Lib.hid ho4; have HB4 := Lib.hid hb4; clear ho4 hb4)
    go_ret3
    exact ⟨_, _, rfl, Own.nil _ _ _, HO4.out, HB4.out⟩
  by_cases h2 : sumE xs < n
  · have HE : Hid (takeE n xs = ([], xs, 23)) := Lib.hid (by rw [takeE, if_neg h1, if_pos h2])
    rw [HE.out]
    go_enter Try.func14, Try.ntmps14
    go_upto_region 4 with (go_at_call 32; refine HC.out.mono ?_; rintro e w3 ⟨rfl, hb3⟩; have HB3 := Lib.hid hb3; clear hb3)
    go_wp2_with (go_at_call 31; refine (HCp.out _ HB3.out).mono ?_; rintro e w4 ⟨v4, rfl, ho4, hb4⟩; have HO4 := Lib.hid (ho4.mono HB3.out.size); have HB4 := Lib.hid (HB3.out.trans (hb4.mono HB3.out.size)); clear ho4 hb4)
    go_ret3
    exact ⟨_, _, rfl, Own.nil _ _ _, HO4.out, HB4.out⟩
  by_cases h3 : n = 0
  · have HE : Hid (takeE n xs = ([], xs, 0)) := Lib.hid (by rw [takeE, if_neg h1, if_neg h2, if_pos h3])
    rw [HE.out]
    subst h3
    go_enter Try.func14, Try.ntmps14
    go_upto_region 6 with (go_at_call 32; refine HC.out.mono ?_; rintro e w3 ⟨rfl, hb3⟩; have HB3 := Lib.hid hb3; clear hb3)
    go_wp2_with (go_at_call 31; refine (HCp.out _ HB3.out).mono ?_; rintro e w4 ⟨v4, rfl, ho4, hb4⟩; have HO4 := Lib.hid (ho4.mono HB3.out.size); have HB4 := Lib.hid (HB3.out.trans (hb4.mono HB3.out.size)); clear ho4 hb4)
    go_ret3
    exact ⟨_, _, rfl, Own.nil _ _ _, HO4.out, HB4.out⟩
  have HE : Hid (takeE n xs = ((splitE (xs.drop (fromE n xs)) n).1, xs.take (fromE n xs) ++ (splitE (xs.drop (fromE n xs)) n).2, 0)) := Lib.hid (by rw [takeE, if_neg h1, if_neg h2, if_neg h3])
  have hn1 : 1 ≤ n := by omega
  have HN1 := Lib.hid hn1
  have HNs := Lib.hid (show n ≤ sumE xs by omega)
  have hn2 : n ≤ 65536 := by have := HSum.out; omega
  have hn0 : True → (n == 0) = false := fun _ => by simp [h3]
  obtain ⟨L, hL⟩ : ∃ L, xs.length = L := ⟨_, rfl⟩
  have HL := Lib.hid hL
  rw [hL] at hl HS HC ⊢
  clear hL hn64 HCp
  rw [HE.out]
  have hwL : IntKind.i64.wrap ((L : Int) - 1) = (L : Int) - 1 := by rw [IntKind.wrap_i64]; omega
  go_enter Try.func14, Try.ntmps14
  go_wp2_with (go_at_call 32; refine HC.out.mono ?_; rintro e w3 ⟨rfl, hb3⟩; have HB3 := Lib.hid hb3; clear hb3)
  have HLw := Lib.hid (show L ≤ 65536 by have := row_sum xs H1x.out; have := HSum.out; have := HL.out; omega)
  go_loopw [7, 8] (fun vw vi wr => ∃ (wh i : Int), vw = .int .i64 wh ∧ vi = .int .i64 i ∧ -1 ≤ i ∧ i < L ∧ ((wh = -1 ∧ ∀ (j : Nat) (hj : j < xs.length), i < j → xs[j].2 < n) ∨ ∃ (m : Nat) (hm : m < xs.length), wh = m ∧ i < m ∧ n ≤ xs[m].2 ∧ ∀ (j : Nat) (hj : j < xs.length), i < j → j < m → xs[j].2 < n) ∧ Below w.heap.size w wr) (fun _ vi _ => (intOf vi + 1).toNat)
  case atStart => exact ⟨-1, L - 1, rfl, rfl, by omega, by omega, .inl ⟨rfl, fun j hj h => by have := HL.out; omega⟩, HB3.out⟩
  case round =>
    obtain ⟨wh, i, rfl, rfl, hi0, hiL, hw, hb⟩ := hrel
    have HB := Lib.hid hb; have HW := Lib.hid hw
    clear hb hw
    by_cases hlt : 0 ≤ i
    · obtain ⟨k, rfl⟩ : ∃ k : Nat, i = k := ⟨i.toNat, by omega⟩
      have hkL : k < L := by omega
      have hi : k < xs.length := by rw [HL.out]; exact hkL
      have hs2 : Sl wc 2 wr (.slice a L cap) xs := HS.out.keep HB.out
      obtain ⟨_, a', cap', he, -, hcell⟩ := hs2
      have he' : a = a' ∧ cap = cap' := by cases he; exact ⟨rfl, rfl⟩
      obtain ⟨rfl, rfl⟩ := he'
      clear he
      obtain ⟨b, off, rfl, hbl, hcell⟩ := hcell (by omega)
      obtain ⟨c1, c2⟩ := wcells_at (hcell k hi)
      clear hcell hbl
      have hwk : IntKind.i64.wrap ((k : Int) - 1) = (k : Int) - 1 := by rw [IntKind.wrap_i64]; omega
      obtain ⟨x, hx⟩ : ∃ x, xs[k] = x := ⟨_, rfl⟩
      have HXk := Lib.hid hx
      rw [hx] at c1 c2
      obtain ⟨p, q⟩ := x
      simp only at c1 c2
      clear hx
      by_cases hq : n ≤ q
      · go_wp2
        go_roundw
        case rel => exact ⟨k, (k : Int) - 1, rfl, rfl, by omega, by omega, .inr ⟨k, hi, rfl, by omega, by rw [HXk.out]; exact hq, fun j hj h1 h2 => by omega⟩, HB.out⟩
        case measure => simp [intOf] <;> omega
      · have HW2 : Hid ((wh = -1 ∧ ∀ (j : Nat) (hj : j < xs.length), (k : Int) - 1 < j → xs[j].2 < n) ∨ ∃ (m : Nat) (hm : m < xs.length), wh = m ∧ (k : Int) - 1 < m ∧ n ≤ xs[m].2 ∧ ∀ (j : Nat) (hj : j < xs.length), (k : Int) - 1 < j → j < m → xs[j].2 < n) := Lib.hid (by
          have hk : xs[k].2 < n := by rw [HXk.out]; show q < n; omega
          rcases HW.out with ⟨e, h⟩ | ⟨m, hm, e, h4, h5, h6⟩
          · refine .inl ⟨e, fun j hj hj2 => ?_⟩
            by_cases hjk : j = k
            · subst hjk; exact hk
            · exact h j hj (by omega)
          · refine .inr ⟨m, hm, e, by omega, h5, fun j hj hj2 hj3 => ?_⟩
            by_cases hjk : j = k
            · subst hjk; exact hk
            · exact h6 j hj (by omega) hj3)
        have hq' : q < n := by omega
        go_wp2
        go_roundw
        case rel => exact ⟨wh, (k : Int) - 1, rfl, rfl, by omega, by omega, HW2.out, HB.out⟩
        case measure => simp [intOf] <;> omega
    · obtain rfl : i = -1 := by omega
      have HWh : Hid ((wh = -1 ∧ ∀ x ∈ xs, x.2 < n) ∨ ∃ (m : Nat) (h : m < xs.length), wh = m ∧ n ≤ xs[m].2 ∧ ∀ j (hj : j < m), (xs[j]'(by omega)).2 < n) := Lib.hid (by
        rcases HW.out with ⟨e, h⟩ | ⟨m, hm, e, h4, h5, h6⟩
        · refine .inl ⟨e, fun x hx => ?_⟩
          obtain ⟨j, hj, rfl⟩ := List.getElem_of_mem hx
          exact h j hj (by omega)
        · exact .inr ⟨m, hm, e, h5, fun j hj => h6 j (by omega) (by omega) hj⟩)
      have HRun := Lib.hid (refRun_take xs n wh H1x.out HN1.out HNs.out HWh.out)
      have hwhr : wh = -1 ∨ (0 ≤ wh ∧ wh < L) := by
        rcases HWh.out with ⟨e, _⟩ | ⟨m, hm, e, _⟩
        · exact .inl e
        · have := HL.out; exact .inr ⟨by omega, by omega⟩
      clear HW HWh
      go_wp2
      go_loopw [1, 9, 10, 11] (fun vn vt vl vi wr => ∃ (k : Nat) (m : Int) (t l : List Wy), k ≤ L ∧ vi = .int .i64 k ∧ vn = .int .i64 m ∧ 0 ≤ m ∧ m ≤ 65536 ∧ Own wc 2 48 wr w.heap.size vt t ∧ Own wc 2 48 wr w.heap.size vl l ∧ refRun wh k (m, t, l) (xs.drop k) = refRun wh 0 (n, [], []) xs ∧ t.length ≤ k ∧ l.length ≤ k ∧ (t = [] → vt = .slice none 0 0) ∧ (l = [] → vl = .slice none 0 0) ∧ (∀ a ∈ t, ∀ b ∈ l, a.1 ≠ b.1) ∧ (∀ a ∈ t ++ l, ∀ y ∈ xs.drop k, a.1 < y.1) ∧ Below w.heap.size w wr) (fun _ _ _ vi _ => L - (intOf vi).toNat)
      case atStart => exact ⟨0, n, [], [], by omega, rfl, rfl, by omega, by omega, Own.nil _ _ _, Own.nil _ _ _, rfl, by simp, by simp, fun _ => rfl, fun _ => rfl, fun a ha => (by cases ha), fun a ha => (by cases ha), HB.out⟩
      case round =>
        obtain ⟨k, m, t, l, hk, rfl, rfl, hm0, hm1, hot, hol, hrun, hlt1, hll1, hnt, hnl, hap, hlow, hb⟩ := hrel
        have hdis := own_apart hot hol hnt hnl hap
        have HApA := Lib.hid hdis.1; have HApB := Lib.hid hdis.2
        have HB := Lib.hid hb; have HTr := Lib.hid hot; have HLr := Lib.hid hol; have HR := Lib.hid hrun; have HLt := Lib.hid hlt1; have HLl := Lib.hid hll1; have HNt := Lib.hid hnt; have HNl := Lib.hid hnl; have HAp := Lib.hid hap; have HLow := Lib.hid hlow
        obtain ⟨ta, tc, rfl⟩ := hot.slice
        obtain ⟨la, lc, rfl⟩ := hol.slice
        clear hb hot hol hrun hlt1 hll1 hnt hnl hap hlow hdis
        by_cases hlt : k < L
        · have hlt' : (k : Int) < L := by omega
          have hi : k < xs.length := by rw [HL.out]; exact hlt
          have hs2 : Sl wc 2 wr (.slice a L cap) xs := HS.out.keep HB.out
          obtain ⟨_, a', cap', he, -, hcell⟩ := hs2
          have he' : a = a' ∧ cap = cap' := by cases he; exact ⟨rfl, rfl⟩
          obtain ⟨rfl, rfl⟩ := he'
          clear he
          obtain ⟨b, off, rfl, hbl, hcell⟩ := hcell (by omega)
          obtain ⟨c1, c2⟩ := wcells_at (hcell k hi)
          clear hcell hbl
          have hd : xs.drop k = xs[k] :: xs.drop (k + 1) := List.drop_eq_getElem_cons hi
          have hfx := HFn.out _ (List.getElem_mem hi)
          unfold Fine at hfx
          have hgd : ∀ y ∈ xs.drop (k + 1), xs[k].1 + xs[k].2 < y.1 := by
            have := HGp.out.sublist (List.drop_sublist k xs)
            rw [hd] at this
            exact (List.pairwise_cons.1 this).1
          obtain ⟨x, hx⟩ : ∃ x, xs[k] = x := ⟨_, rfl⟩
          rw [hx] at c1 c2 hd hfx hgd
          obtain ⟨p, q⟩ := x
          simp only at c1 c2 hfx hgd
          have HLo2 : Hid (∀ a ∈ t ++ l, a.1 < p ∧ ∀ y ∈ xs.drop (k + 1), a.1 < y.1) := Lib.hid (fun a ha => by
            have := HLow.out a ha
            rw [hd] at this
            exact ⟨this (p, q) (List.mem_cons_self ..), fun y hy => this y (List.mem_cons_of_mem _ hy)⟩)
          have HGd := Lib.hid hgd
          have HD : Hid (refRun wh (k + 1) (refStep wh k (m, t, l) (p, q)) (xs.drop (k + 1)) = refRun wh 0 (n, [], []) xs) := Lib.hid (by rw [← HR.out, hd]; rfl)
          clear hd hx hgd
          obtain ⟨b1, b2⟩ := ebox_cells wr (p, q)
          have hbA := below_new wr (ebox (p, q))
          have HBn := Lib.hid (HB.out.trans (hbA.mono HB.out.size))
          have HTn := Lib.hid (HTr.out.below hbA); have HLn := Lib.hid (HLr.out.below hbA)
          simp only [ebox] at b1 b2 hbA HBn HTn HLn
          have hq1 : 1 ≤ q := hfx.2.1
          go_upto_region 19 with fail
          generalize hWd : (wr.alloc (.cells #[.int .i64 p, .int .i64 q] 48)) = W at HBn HTn HLn b1 b2 hbA ⊢
          have hX := alloc_at wr (ebox (p, q))
          rw [show wr.alloc (ebox (p, q)) = W from hWd] at hX
          obtain ⟨M, hM⟩ : ∃ M, wr.heap.size = M := ⟨_, rfl⟩
          have HbA := Lib.hid hbA; have HM := Lib.hid hM
          rw [hM] at b1 b2 hX ⊢
          have HX := Lib.hid hX
          have HMl := Lib.hid (cell_lt b1)
          clear c1 c2 hbA hM hWd hX
          have lowL : ∀ (t' l' : List Wy), (∀ a ∈ t', a ∈ t ∨ a.1 = p) → (∀ a ∈ l', a ∈ l ∨ (p ≤ a.1 ∧ a.1 < p + q)) → ∀ a ∈ t' ++ l', ∀ y ∈ xs.drop (k + 1), a.1 < y.1 := by
            intro t' l' h1 h2 a ha y hy
            have hg := HGd.out y hy
            rcases List.mem_append.1 ha with h | h
            · rcases h1 a h with h | h
              · exact (HLo2.out a (List.mem_append_left _ h)).2 y hy
              · omega
            · rcases h2 a h with h | h
              · exact (HLo2.out a (List.mem_append_right _ h)).2 y hy
              · omega
          have LowL := Lib.hid lowL
          clear lowL
          by_cases hwn : wh < 0
          · have hwc : wh < 0 ∨ wh = (k : Int) := .inl hwn
            by_cases hm : m = 0
            · subst hm
              have hmn : min 0 q = 0 := by omega
              have HR' : Hid (refRun wh (k + 1) (0, t, l ++ [(p, q)]) (xs.drop (k + 1)) = refRun wh 0 (n, [], []) xs) := Lib.hid (by rw [← HD.out, refStep_zero wh k t l (p, q) hq1])
              have HAp2 : Hid (∀ a ∈ t, ∀ b ∈ l ++ [(p, q)], a.1 ≠ b.1) := Lib.hid (by
                intro a ha b hb
                rcases List.mem_append.1 hb with h | h
                · exact HAp.out a ha b h
                · rw [List.mem_singleton.1 h]
                  have := (HLo2.out a (List.mem_append_left _ ha)).1
                  simp only; omega)
              have HLow2 : Hid (∀ a ∈ t ++ (l ++ [(p, q)]), ∀ y ∈ xs.drop (k + 1), a.1 < y.1) := Lib.hid (LowL.out t (l ++ [(p, q)]) (fun a ha => .inl ha) (fun a ha => by
                rcases List.mem_append.1 ha with h | h
                · exact .inl h
                · rw [List.mem_singleton.1 h]; exact .inr ⟨by simp only; omega, by simp only; omega⟩))
              have HbC := Lib.hid (below_new W (.cells (wc (p, q)).toArray 48))
              have HB5 := Lib.hid (HBn.out.trans (HbC.out.mono HBn.out.size))
              have HO5 := Lib.hid (HLn.out.below HbC.out)
              have HS5 := Lib.hid (sl_new wc_len W ((p, q) : Wy) 48 _ rfl)
              have k1 := (HbC.out.cell (p := ⟨M, 0, none⟩) HMl.out).trans b1
              have k2 := (HbC.out.cell (p := ⟨M, 1, none⟩) HMl.out).trans b2
              go_wp2_with (at_builtin; refine appSlG wc_len wc_one (by decide) rfl _ _ 22 rfl w.heap.size 48 _ (by rfl) 16 Try.underlying22 infoWay _ l rfl HO5.out _ [(p, q)] rfl HS5.out (by have := HLl.out; have := HLw.out; unfold maxLen; simp; omega) (by have := HLl.out; have := HLw.out; simp; omega) HB5.out.size ?_; intro v6 w6 ho6 hk6 hg6; obtain ⟨x6, y6, rfl⟩ := ho6.slice; have HO6 := Lib.hid ho6; have HG6 := Lib.hid hg6; have HB6 := Lib.hid (HB5.out.trans hk6.toBelow); clear ho6 hk6 hg6)
              have HT6 := Lib.hid (Own.stay HTn.out HbC.out HG6.out HApA.out)
              clear b1 b2 k1 k2
              go_roundw
              case rel => exact ⟨k + 1, 0, t, l ++ [(p, q)], by omega, by go_num, rfl, by omega, by omega, HT6.out, by have := HO6.out; rw [List.length_append] at this; exact this, by rw [HR'.out], by have := HLt.out; omega, by have := HLl.out; simp; omega, HNt.out, (fun h => by simp at h), HAp2.out, HLow2.out, HB6.out⟩
              case measure => simp [intOf]; omega
            · by_cases hqm : q ≤ m
              · have hmn : min m q = q := by omega
                have hwm : IntKind.i64.wrap (m - q) = m - q := by rw [IntKind.wrap_i64]; omega
                have HR' : Hid (refRun wh (k + 1) (m - q, t ++ [(p, q)], l) (xs.drop (k + 1)) = refRun wh 0 (n, [], []) xs) := Lib.hid (by rw [← HD.out, refStep_all wh k m t l (p, q) hq1 hwc hqm])
                have HAp2 : Hid (∀ a ∈ t ++ [(p, q)], ∀ b ∈ l, a.1 ≠ b.1) := Lib.hid (by
                  intro a ha b hb
                  have h3 := (HLo2.out b (List.mem_append_right _ hb)).1
                  rcases List.mem_append.1 ha with h | h
                  · exact HAp.out a h b hb
                  · rw [List.mem_singleton.1 h]; simp only; omega)
                have HLow2 : Hid (∀ a ∈ (t ++ [(p, q)]) ++ l, ∀ y ∈ xs.drop (k + 1), a.1 < y.1) := Lib.hid (LowL.out (t ++ [(p, q)]) l (fun a ha => by
                  rcases List.mem_append.1 ha with h | h
                  · exact .inl h
                  · rw [List.mem_singleton.1 h]; exact .inr rfl) (fun a ha => .inl ha))
                have HbC := Lib.hid (below_new W (.cells (wc (p, q)).toArray 48))
                have HB5 := Lib.hid (HBn.out.trans (HbC.out.mono HBn.out.size))
                have HO5 := Lib.hid (HTn.out.below HbC.out)
                have HS5 := Lib.hid (sl_new wc_len W ((p, q) : Wy) 48 _ rfl)
                have k1 := (HbC.out.cell (p := ⟨M, 0, none⟩) HMl.out).trans b1
                have k2 := (HbC.out.cell (p := ⟨M, 1, none⟩) HMl.out).trans b2
                go_upto_region 25 with (at_builtin; refine appSlG wc_len wc_one (by decide) rfl _ _ 22 rfl w.heap.size 48 _ (by rfl) 16 Try.underlying22 infoWay _ t rfl HO5.out _ [(p, q)] rfl HS5.out (by have := HLt.out; have := HLw.out; unfold maxLen; simp; omega) (by have := HLt.out; have := HLw.out; simp; omega) HB5.out.size ?_; intro v6 w6 ho6 hk6 hg6; obtain ⟨x6, y6, rfl⟩ := ho6.slice; have HO6 := Lib.hid ho6; have HG6 := Lib.hid hg6; have HB6 := Lib.hid (HB5.out.trans hk6.toBelow); clear ho6 hk6 hg6)
                have HT6 := Lib.hid (Own.stay HLn.out HbC.out HG6.out HApB.out)
                have hX6 : w6.heap[M]? = some (ebox (p, q)) := (grown_keep HTr.out (HbA.out.trans (HbC.out.mono HbA.out.size)) HG6.out (by rw [HM.out]; exact Nat.le_refl _) (Nat.lt_of_lt_of_le HMl.out HbC.out.size)).trans ((HbC.out.block M HMl.out).trans HX.out)
                clear b1 b2 k1 k2
                obtain ⟨k1, k2⟩ := ebox_at hX6
                simp only at k1 k2
                clear hX6
                go_wp2
                clear k1 k2
                go_roundw
                case rel => exact ⟨k + 1, m - q, t ++ [(p, q)], l, by omega, by go_num, rfl, by omega, by omega, by have := HO6.out; rw [List.length_append] at this; exact this, HT6.out, by rw [HR'.out], by have := HLt.out; simp; omega, by have := HLl.out; omega, (fun h => by simp at h), HNl.out, HAp2.out, HLow2.out, HB6.out⟩
                case measure => simp [intOf]; omega
              · have hmn : min m q = m := by omega
                have hqm' : m < q := by omega
                have hm1' : 0 < m := by omega
                have hwa : IntKind.i64.wrap (p + m) = p + m := by rw [IntKind.wrap_i64]; omega
                have hwb : IntKind.i64.wrap (q - m) = q - m := by rw [IntKind.wrap_i64]; omega
                have HR' : Hid (refRun wh (k + 1) (0, t ++ [(p, m)], l ++ [(p + m, q - m)]) (xs.drop (k + 1)) = refRun wh 0 (n, [], []) xs) := Lib.hid (by rw [← HD.out, refStep_some wh k m t l (p, q) hwc (by omega) (by show m < q; omega)])
                have HAp1 : Hid (∀ a ∈ t ++ [(p, m)], ∀ b ∈ l, a.1 ≠ b.1) := Lib.hid (by
                  intro a ha b hb
                  have h3 := (HLo2.out b (List.mem_append_right _ hb)).1
                  rcases List.mem_append.1 ha with h | h
                  · exact HAp.out a h b hb
                  · rw [List.mem_singleton.1 h]; simp only; omega)
                have HAp2 : Hid (∀ a ∈ t ++ [(p, m)], ∀ b ∈ l ++ [(p + m, q - m)], a.1 ≠ b.1) := Lib.hid (by
                  intro a ha b hb
                  rcases List.mem_append.1 hb with h | h
                  · exact HAp1.out a ha b h
                  · rw [List.mem_singleton.1 h]
                    rcases List.mem_append.1 ha with h2 | h2
                    · have := (HLo2.out a (List.mem_append_left _ h2)).1
                      simp only; omega
                    · rw [List.mem_singleton.1 h2]; simp only; omega)
                have HLow2 : Hid (∀ a ∈ (t ++ [(p, m)]) ++ (l ++ [(p + m, q - m)]), ∀ y ∈ xs.drop (k + 1), a.1 < y.1) := Lib.hid (LowL.out (t ++ [(p, m)]) (l ++ [(p + m, q - m)]) (fun a ha => by
                  rcases List.mem_append.1 ha with h | h
                  · exact .inl h
                  · rw [List.mem_singleton.1 h]; exact .inr rfl) (fun a ha => by
                  rcases List.mem_append.1 ha with h | h
                  · exact .inl h
                  · rw [List.mem_singleton.1 h]; exact .inr ⟨by simp only; omega, by simp only; omega⟩))
                have HbC := Lib.hid (below_new W (.cells (wc (p, m)).toArray 48))
                have HB5 := Lib.hid (HBn.out.trans (HbC.out.mono HBn.out.size))
                have HO5 := Lib.hid (HTn.out.below HbC.out)
                have HS5 := Lib.hid (sl_new wc_len W ((p, m) : Wy) 48 _ rfl)
                have k1 := (HbC.out.cell (p := ⟨M, 0, none⟩) HMl.out).trans b1
                have k2 := (HbC.out.cell (p := ⟨M, 1, none⟩) HMl.out).trans b2
                go_upto_region 25 with (at_builtin; refine appSlG wc_len wc_one (by decide) rfl _ _ 22 rfl w.heap.size 48 _ (by rfl) 16 Try.underlying22 infoWay _ t rfl HO5.out _ [(p, m)] rfl HS5.out (by have := HLt.out; have := HLw.out; unfold maxLen; simp; omega) (by have := HLt.out; have := HLw.out; simp; omega) HB5.out.size ?_; intro v6 w6 ho6 hk6 hg6; obtain ⟨x6, y6, rfl⟩ := ho6.slice; have HO6 := Lib.hid ho6; have HG6 := Lib.hid hg6; have HB6 := Lib.hid (HB5.out.trans hk6.toBelow); clear ho6 hk6 hg6)
                have HT6 := Lib.hid (Own.stay HLn.out HbC.out HG6.out HApB.out)
                have hX6 : w6.heap[M]? = some (ebox (p, q)) := (grown_keep HTr.out (HbA.out.trans (HbC.out.mono HbA.out.size)) HG6.out (by rw [HM.out]; exact Nat.le_refl _) (Nat.lt_of_lt_of_le HMl.out HbC.out.size)).trans ((HbC.out.block M HMl.out).trans HX.out)
                clear b1 b2 k1 k2
                obtain ⟨k1, k2⟩ := ebox_at hX6
                simp only at k1 k2
                have HM6 := Lib.hid (cell_lt k1)
                clear hX6
                have hAp6 := (own_apart HO6.out HT6.out (fun h => by simp at h) HNl.out HAp1.out).1
                have HAp6 := Lib.hid hAp6
                clear hAp6
                have HbD := Lib.hid (below_new w6 (.cells (wc (p + m, q - m)).toArray 48))
                have HB7 := Lib.hid (HB6.out.trans (HbD.out.mono HB6.out.size))
                have HO7 := Lib.hid (HT6.out.below HbD.out)
                have HS7 := Lib.hid (sl_new wc_len w6 ((p + m, q - m) : Wy) 48 _ rfl)
                have k3 := (HbD.out.cell (p := ⟨M, 0, none⟩) HM6.out).trans k1
                have k4 := (HbD.out.cell (p := ⟨M, 1, none⟩) HM6.out).trans k2
                go_wp2_with (at_builtin; refine appSlG wc_len wc_one (by decide) rfl _ _ 22 rfl w.heap.size 48 _ (by rfl) 16 Try.underlying22 infoWay _ l rfl HO7.out _ [(p + m, q - m)] rfl HS7.out (by have := HLl.out; have := HLw.out; unfold maxLen; simp; omega) (by have := HLl.out; have := HLw.out; simp; omega) HB7.out.size ?_; intro v8 w8 ho8 hk8 hg8; obtain ⟨x8, y8, rfl⟩ := ho8.slice; have HO8 := Lib.hid ho8; have HG8 := Lib.hid hg8; have HB8 := Lib.hid (HB7.out.trans hk8.toBelow); clear ho8 hk8 hg8)
                have HT8 := Lib.hid (Own.stay HO6.out HbD.out HG8.out HAp6.out)
                clear k1 k2 k3 k4
                go_roundw
                case rel => exact ⟨k + 1, 0, t ++ [(p, m)], l ++ [(p + m, q - m)], by omega, by go_num, rfl, by omega, by omega, by have := HT8.out; rw [List.length_append] at this; exact this, by have := HO8.out; rw [List.length_append] at this; exact this, by rw [HR'.out], by have := HLt.out; simp; omega, by have := HLl.out; simp; omega, (fun h => by simp at h), (fun h => by simp at h), HAp2.out, HLow2.out, HB8.out⟩
                case measure => simp [intOf]; omega
          · have hwn0 : 0 ≤ wh := by omega
            by_cases hwk : wh = (k : Int)
            · have hwc : wh < 0 ∨ wh = (k : Int) := .inr hwk
              have hwkb : True → (wh == (k : Int)) = true := fun _ => by simp [hwk]
              have HWc := Lib.hid hwc
              clear hwc hwk
              by_cases hm : m = 0
              · subst hm
                have hmn : min 0 q = 0 := by omega
                have HR' : Hid (refRun wh (k + 1) (0, t, l ++ [(p, q)]) (xs.drop (k + 1)) = refRun wh 0 (n, [], []) xs) := Lib.hid (by rw [← HD.out, refStep_zero wh k t l (p, q) hq1])
                have HAp2 : Hid (∀ a ∈ t, ∀ b ∈ l ++ [(p, q)], a.1 ≠ b.1) := Lib.hid (by
                  intro a ha b hb
                  rcases List.mem_append.1 hb with h | h
                  · exact HAp.out a ha b h
                  · rw [List.mem_singleton.1 h]
                    have := (HLo2.out a (List.mem_append_left _ ha)).1
                    simp only; omega)
                have HLow2 : Hid (∀ a ∈ t ++ (l ++ [(p, q)]), ∀ y ∈ xs.drop (k + 1), a.1 < y.1) := Lib.hid (LowL.out t (l ++ [(p, q)]) (fun a ha => .inl ha) (fun a ha => by
                  rcases List.mem_append.1 ha with h | h
                  · exact .inl h
                  · rw [List.mem_singleton.1 h]; exact .inr ⟨by simp only; omega, by simp only; omega⟩))
                have HbC := Lib.hid (below_new W (.cells (wc (p, q)).toArray 48))
                have HB5 := Lib.hid (HBn.out.trans (HbC.out.mono HBn.out.size))
                have HO5 := Lib.hid (HLn.out.below HbC.out)
                have HS5 := Lib.hid (sl_new wc_len W ((p, q) : Wy) 48 _ rfl)
                have k1 := (HbC.out.cell (p := ⟨M, 0, none⟩) HMl.out).trans b1
                have k2 := (HbC.out.cell (p := ⟨M, 1, none⟩) HMl.out).trans b2
                go_wp2_with (at_builtin; refine appSlG wc_len wc_one (by decide) rfl _ _ 22 rfl w.heap.size 48 _ (by rfl) 16 Try.underlying22 infoWay _ l rfl HO5.out _ [(p, q)] rfl HS5.out (by have := HLl.out; have := HLw.out; unfold maxLen; simp; omega) (by have := HLl.out; have := HLw.out; simp; omega) HB5.out.size ?_; intro v6 w6 ho6 hk6 hg6; obtain ⟨x6, y6, rfl⟩ := ho6.slice; have HO6 := Lib.hid ho6; have HG6 := Lib.hid hg6; have HB6 := Lib.hid (HB5.out.trans hk6.toBelow); clear ho6 hk6 hg6)
                have HT6 := Lib.hid (Own.stay HTn.out HbC.out HG6.out HApA.out)
                clear b1 b2 k1 k2
                go_roundw
                case rel => exact ⟨k + 1, 0, t, l ++ [(p, q)], by omega, by go_num, rfl, by omega, by omega, HT6.out, by have := HO6.out; rw [List.length_append] at this; exact this, by rw [HR'.out], by have := HLt.out; omega, by have := HLl.out; simp; omega, HNt.out, (fun h => by simp at h), HAp2.out, HLow2.out, HB6.out⟩
                case measure => simp [intOf]; omega
              · by_cases hqm : q ≤ m
                · have hmn : min m q = q := by omega
                  have hwm : IntKind.i64.wrap (m - q) = m - q := by rw [IntKind.wrap_i64]; omega
                  have HR' : Hid (refRun wh (k + 1) (m - q, t ++ [(p, q)], l) (xs.drop (k + 1)) = refRun wh 0 (n, [], []) xs) := Lib.hid (by rw [← HD.out, refStep_all wh k m t l (p, q) hq1 HWc.out hqm])
                  have HAp2 : Hid (∀ a ∈ t ++ [(p, q)], ∀ b ∈ l, a.1 ≠ b.1) := Lib.hid (by
                    intro a ha b hb
                    have h3 := (HLo2.out b (List.mem_append_right _ hb)).1
                    rcases List.mem_append.1 ha with h | h
                    · exact HAp.out a h b hb
                    · rw [List.mem_singleton.1 h]; simp only; omega)
                  have HLow2 : Hid (∀ a ∈ (t ++ [(p, q)]) ++ l, ∀ y ∈ xs.drop (k + 1), a.1 < y.1) := Lib.hid (LowL.out (t ++ [(p, q)]) l (fun a ha => by
                    rcases List.mem_append.1 ha with h | h
                    · exact .inl h
                    · rw [List.mem_singleton.1 h]; exact .inr rfl) (fun a ha => .inl ha))
                  have HbC := Lib.hid (below_new W (.cells (wc (p, q)).toArray 48))
                  have HB5 := Lib.hid (HBn.out.trans (HbC.out.mono HBn.out.size))
                  have HO5 := Lib.hid (HTn.out.below HbC.out)
                  have HS5 := Lib.hid (sl_new wc_len W ((p, q) : Wy) 48 _ rfl)
                  have k1 := (HbC.out.cell (p := ⟨M, 0, none⟩) HMl.out).trans b1
                  have k2 := (HbC.out.cell (p := ⟨M, 1, none⟩) HMl.out).trans b2
                  go_upto_region 25 with (at_builtin; refine appSlG wc_len wc_one (by decide) rfl _ _ 22 rfl w.heap.size 48 _ (by rfl) 16 Try.underlying22 infoWay _ t rfl HO5.out _ [(p, q)] rfl HS5.out (by have := HLt.out; have := HLw.out; unfold maxLen; simp; omega) (by have := HLt.out; have := HLw.out; simp; omega) HB5.out.size ?_; intro v6 w6 ho6 hk6 hg6; obtain ⟨x6, y6, rfl⟩ := ho6.slice; have HO6 := Lib.hid ho6; have HG6 := Lib.hid hg6; have HB6 := Lib.hid (HB5.out.trans hk6.toBelow); clear ho6 hk6 hg6)
                  have HT6 := Lib.hid (Own.stay HLn.out HbC.out HG6.out HApB.out)
                  have hX6 : w6.heap[M]? = some (ebox (p, q)) := (grown_keep HTr.out (HbA.out.trans (HbC.out.mono HbA.out.size)) HG6.out (by rw [HM.out]; exact Nat.le_refl _) (Nat.lt_of_lt_of_le HMl.out HbC.out.size)).trans ((HbC.out.block M HMl.out).trans HX.out)
                  clear b1 b2 k1 k2
                  obtain ⟨k1, k2⟩ := ebox_at hX6
                  simp only at k1 k2
                  clear hX6
                  go_wp2
                  clear k1 k2
                  go_roundw
                  case rel => exact ⟨k + 1, m - q, t ++ [(p, q)], l, by omega, by go_num, rfl, by omega, by omega, by have := HO6.out; rw [List.length_append] at this; exact this, HT6.out, by rw [HR'.out], by have := HLt.out; simp; omega, by have := HLl.out; omega, (fun h => by simp at h), HNl.out, HAp2.out, HLow2.out, HB6.out⟩
                  case measure => simp [intOf]; omega
                · have hmn : min m q = m := by omega
                  have hqm' : m < q := by omega
                  have hm1' : 0 < m := by omega
                  have hwa : IntKind.i64.wrap (p + m) = p + m := by rw [IntKind.wrap_i64]; omega
                  have hwb : IntKind.i64.wrap (q - m) = q - m := by rw [IntKind.wrap_i64]; omega
                  have HR' : Hid (refRun wh (k + 1) (0, t ++ [(p, m)], l ++ [(p + m, q - m)]) (xs.drop (k + 1)) = refRun wh 0 (n, [], []) xs) := Lib.hid (by rw [← HD.out, refStep_some wh k m t l (p, q) HWc.out (by omega) (by show m < q; omega)])
                  have HAp1 : Hid (∀ a ∈ t ++ [(p, m)], ∀ b ∈ l, a.1 ≠ b.1) := Lib.hid (by
                    intro a ha b hb
                    have h3 := (HLo2.out b (List.mem_append_right _ hb)).1
                    rcases List.mem_append.1 ha with h | h
                    · exact HAp.out a h b hb
                    · rw [List.mem_singleton.1 h]; simp only; omega)
                  have HAp2 : Hid (∀ a ∈ t ++ [(p, m)], ∀ b ∈ l ++ [(p + m, q - m)], a.1 ≠ b.1) := Lib.hid (by
                    intro a ha b hb
                    rcases List.mem_append.1 hb with h | h
                    · exact HAp1.out a ha b h
                    · rw [List.mem_singleton.1 h]
                      rcases List.mem_append.1 ha with h2 | h2
                      · have := (HLo2.out a (List.mem_append_left _ h2)).1
                        simp only; omega
                      · rw [List.mem_singleton.1 h2]; simp only; omega)
                  have HLow2 : Hid (∀ a ∈ (t ++ [(p, m)]) ++ (l ++ [(p + m, q - m)]), ∀ y ∈ xs.drop (k + 1), a.1 < y.1) := Lib.hid (LowL.out (t ++ [(p, m)]) (l ++ [(p + m, q - m)]) (fun a ha => by
                    rcases List.mem_append.1 ha with h | h
                    · exact .inl h
                    · rw [List.mem_singleton.1 h]; exact .inr rfl) (fun a ha => by
                    rcases List.mem_append.1 ha with h | h
                    · exact .inl h
                    · rw [List.mem_singleton.1 h]; exact .inr ⟨by simp only; omega, by simp only; omega⟩))
                  have HbC := Lib.hid (below_new W (.cells (wc (p, m)).toArray 48))
                  have HB5 := Lib.hid (HBn.out.trans (HbC.out.mono HBn.out.size))
                  have HO5 := Lib.hid (HTn.out.below HbC.out)
                  have HS5 := Lib.hid (sl_new wc_len W ((p, m) : Wy) 48 _ rfl)
                  have k1 := (HbC.out.cell (p := ⟨M, 0, none⟩) HMl.out).trans b1
                  have k2 := (HbC.out.cell (p := ⟨M, 1, none⟩) HMl.out).trans b2
                  go_upto_region 25 with (at_builtin; refine appSlG wc_len wc_one (by decide) rfl _ _ 22 rfl w.heap.size 48 _ (by rfl) 16 Try.underlying22 infoWay _ t rfl HO5.out _ [(p, m)] rfl HS5.out (by have := HLt.out; have := HLw.out; unfold maxLen; simp; omega) (by have := HLt.out; have := HLw.out; simp; omega) HB5.out.size ?_; intro v6 w6 ho6 hk6 hg6; obtain ⟨x6, y6, rfl⟩ := ho6.slice; have HO6 := Lib.hid ho6; have HG6 := Lib.hid hg6; have HB6 := Lib.hid (HB5.out.trans hk6.toBelow); clear ho6 hk6 hg6)
                  have HT6 := Lib.hid (Own.stay HLn.out HbC.out HG6.out HApB.out)
                  have hX6 : w6.heap[M]? = some (ebox (p, q)) := (grown_keep HTr.out (HbA.out.trans (HbC.out.mono HbA.out.size)) HG6.out (by rw [HM.out]; exact Nat.le_refl _) (Nat.lt_of_lt_of_le HMl.out HbC.out.size)).trans ((HbC.out.block M HMl.out).trans HX.out)
                  clear b1 b2 k1 k2
                  obtain ⟨k1, k2⟩ := ebox_at hX6
                  simp only at k1 k2
                  have HM6 := Lib.hid (cell_lt k1)
                  clear hX6
                  have hAp6 := (own_apart HO6.out HT6.out (fun h => by simp at h) HNl.out HAp1.out).1
                  have HAp6 := Lib.hid hAp6
                  clear hAp6
                  have HbD := Lib.hid (below_new w6 (.cells (wc (p + m, q - m)).toArray 48))
                  have HB7 := Lib.hid (HB6.out.trans (HbD.out.mono HB6.out.size))
                  have HO7 := Lib.hid (HT6.out.below HbD.out)
                  have HS7 := Lib.hid (sl_new wc_len w6 ((p + m, q - m) : Wy) 48 _ rfl)
                  have k3 := (HbD.out.cell (p := ⟨M, 0, none⟩) HM6.out).trans k1
                  have k4 := (HbD.out.cell (p := ⟨M, 1, none⟩) HM6.out).trans k2
                  go_wp2_with (at_builtin; refine appSlG wc_len wc_one (by decide) rfl _ _ 22 rfl w.heap.size 48 _ (by rfl) 16 Try.underlying22 infoWay _ l rfl HO7.out _ [(p + m, q - m)] rfl HS7.out (by have := HLl.out; have := HLw.out; unfold maxLen; simp; omega) (by have := HLl.out; have := HLw.out; simp; omega) HB7.out.size ?_; intro v8 w8 ho8 hk8 hg8; obtain ⟨x8, y8, rfl⟩ := ho8.slice; have HO8 := Lib.hid ho8; have HG8 := Lib.hid hg8; have HB8 := Lib.hid (HB7.out.trans hk8.toBelow); clear ho8 hk8 hg8)
                  have HT8 := Lib.hid (Own.stay HO6.out HbD.out HG8.out HAp6.out)
                  clear k1 k2 k3 k4
                  go_roundw
                  case rel => exact ⟨k + 1, 0, t ++ [(p, m)], l ++ [(p + m, q - m)], by omega, by go_num, rfl, by omega, by omega, by have := HT8.out; rw [List.length_append] at this; exact this, by have := HO8.out; rw [List.length_append] at this; exact this, by rw [HR'.out], by have := HLt.out; simp; omega, by have := HLl.out; simp; omega, (fun h => by simp at h), (fun h => by simp at h), HAp2.out, HLow2.out, HB8.out⟩
                  case measure => simp [intOf]; omega
            · have hwkb : True → (wh == (k : Int)) = false := fun _ => by simp [hwk]
              have hwc : ¬ (wh < 0 ∨ wh = (k : Int)) := by omega
              have HR' : Hid (refRun wh (k + 1) (m, t, l ++ [(p, q)]) (xs.drop (k + 1)) = refRun wh 0 (n, [], []) xs) := Lib.hid (by rw [← HD.out, refStep_other wh k m t l (p, q) hq1 hwc])
              have HAp2 : Hid (∀ a ∈ t, ∀ b ∈ l ++ [(p, q)], a.1 ≠ b.1) := Lib.hid (by
                intro a ha b hb
                rcases List.mem_append.1 hb with h | h
                · exact HAp.out a ha b h
                · rw [List.mem_singleton.1 h]
                  have := (HLo2.out a (List.mem_append_left _ ha)).1
                  simp only; omega)
              have HLow2 : Hid (∀ a ∈ t ++ (l ++ [(p, q)]), ∀ y ∈ xs.drop (k + 1), a.1 < y.1) := Lib.hid (LowL.out t (l ++ [(p, q)]) (fun a ha => .inl ha) (fun a ha => by
                rcases List.mem_append.1 ha with h | h
                · exact .inl h
                · rw [List.mem_singleton.1 h]; exact .inr ⟨by simp only; omega, by simp only; omega⟩))
              have HbC := Lib.hid (below_new W (.cells (wc (p, q)).toArray 48))
              have HB5 := Lib.hid (HBn.out.trans (HbC.out.mono HBn.out.size))
              have HO5 := Lib.hid (HLn.out.below HbC.out)
              have HS5 := Lib.hid (sl_new wc_len W ((p, q) : Wy) 48 _ rfl)
              have k1 := (HbC.out.cell (p := ⟨M, 0, none⟩) HMl.out).trans b1
              have k2 := (HbC.out.cell (p := ⟨M, 1, none⟩) HMl.out).trans b2
              go_wp2_with (at_builtin; refine appSlG wc_len wc_one (by decide) rfl _ _ 22 rfl w.heap.size 48 _ (by rfl) 16 Try.underlying22 infoWay _ l rfl HO5.out _ [(p, q)] rfl HS5.out (by have := HLl.out; have := HLw.out; unfold maxLen; simp; omega) (by have := HLl.out; have := HLw.out; simp; omega) HB5.out.size ?_; intro v6 w6 ho6 hk6 hg6; obtain ⟨x6, y6, rfl⟩ := ho6.slice; have HO6 := Lib.hid ho6; have HG6 := Lib.hid hg6; have HB6 := Lib.hid (HB5.out.trans hk6.toBelow); clear ho6 hk6 hg6)
              have HT6 := Lib.hid (Own.stay HTn.out HbC.out HG6.out HApA.out)
              clear b1 b2 k1 k2
              go_roundw
              case rel => exact ⟨k + 1, m, t, l ++ [(p, q)], by omega, by go_num, rfl, by omega, by omega, HT6.out, by have := HO6.out; rw [List.length_append] at this; exact this, by rw [HR'.out], by have := HLt.out; omega, by have := HLl.out; simp; omega, HNt.out, (fun h => by simp at h), HAp2.out, HLow2.out, HB6.out⟩
              case measure => simp [intOf]; omega
        · obtain rfl : k = L := by omega
          have HFin : Hid ((t, l) = ((splitE (xs.drop (fromE n xs)) n).1, xs.take (fromE n xs) ++ (splitE (xs.drop (fromE n xs)) n).2)) := Lib.hid (by
            rw [← HRun.out, ← HR.out, List.drop_eq_nil_of_le (by rw [HL.out]; exact Nat.le_refl _)]
            rfl)
          have HF1 := Lib.hid (congrArg Prod.fst HFin.out); have HF2 := Lib.hid (congrArg Prod.snd HFin.out)
          go_wp2
          go_ret3
          exact ⟨_, _, rfl, by rw [← HF1.out]; exact HTr.out, by rw [← HF2.out]; exact HLr.out, HB.out⟩

end Go.Proofs.Ytijafehhhknamaa.ext
