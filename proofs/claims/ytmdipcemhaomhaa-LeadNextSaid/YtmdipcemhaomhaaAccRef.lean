/- The document's small functions of layer 15: Ballot, Later, Value, Same (of what is the same), Copy, Prepare. -/
import Derived.Test.YtmdipcemhaomhaaRows
import Derived.Test.YtmdipcemhaomhaaAccTexts
import Derived.Test.YtmdipcemhaomhaaAccAwake
namespace Go.Proofs.Ytmdipcemhaomhaa.crush
open Go.RowKit
open Go.Proofs.Ytmdipcemhaomhaa.kit Go.Proofs.Ytmdipcemhaomhaa.own
set_option linter.unusedVariables false
set_option linter.unusedSimpArgs false

set_option maxHeartbeats 8000000 in
theorem rBallot_any (r m : Int) (w : World) : Calls Try.prog 43 #[.agg #[.int .i64 r, .int .i64 m]] w fun e w' => e = .returned (.bool (okBal r m)) ∧ Below w.heap.size w w' := by
  obtain ⟨R, hR⟩ : ∃ R, okBal r m = R := ⟨_, rfl⟩
  rw [hR]
  have HB := Lib.hid (below_new w (.cells #[.int .i64 r, .int .i64 m] 23))
  have hcs : (¬ 1 ≤ r ∧ R = false) ∨ (1 ≤ r ∧ ¬ r ≤ 1073741824 ∧ R = false) ∨ (1 ≤ r ∧ r ≤ 1073741824 ∧ ¬ 0 ≤ m ∧ R = false) ∨ (1 ≤ r ∧ r ≤ 1073741824 ∧ 0 ≤ m ∧ ¬ m < 5 ∧ R = false) ∨ (1 ≤ r ∧ r ≤ 1073741824 ∧ 0 ≤ m ∧ m < 5 ∧ R = true) := by
    subst hR
    unfold okBal
    by_cases h1 : 1 ≤ r
    · by_cases h2 : r ≤ 1073741824
      · by_cases h3 : 0 ≤ m
        · by_cases h4 : m < 5
          · exact .inr (.inr (.inr (.inr ⟨h1, h2, h3, h4, by simp [h1, h2, h3, h4]⟩)))
          · exact .inr (.inr (.inr (.inl ⟨h1, h2, h3, h4, by simp [h4]⟩)))
        · exact .inr (.inr (.inl ⟨h1, h2, h3, by simp [h3]⟩))
      · exact .inr (.inl ⟨h1, h2, by simp [h2]⟩)
    · exact .inl ⟨h1, by simp [h1]⟩
  clear hR
  go_enter Try.func43, Try.ntmps43
  rcases hcs with ⟨h1, hr⟩ | ⟨h1, h2, hr⟩ | ⟨h1, h2, h3, hr⟩ | ⟨h1, h2, h3, h4, hr⟩ | ⟨h1, h2, h3, h4, hr⟩
  all_goals
    have HR := Lib.hid hr
    clear hr
    go_wp2
    go_ret
    exact ⟨by rw [HR.out]; rfl, HB.out⟩
set_option maxHeartbeats 8000000 in
theorem rLater_any (r m r' m' : Int) (w : World) : Calls Try.prog 29 #[.agg #[.int .i64 r, .int .i64 m], .agg #[.int .i64 r', .int .i64 m']] w fun e w' => e = .returned (.bool (laterB r m r' m')) ∧ Below w.heap.size w w' := by
  obtain ⟨R, hR⟩ : ∃ R, laterB r m r' m' = R := ⟨_, rfl⟩
  rw [hR]
  have HB := Lib.hid ((below_new w (.cells #[.int .i64 r, .int .i64 m] 23)).alloc (by simp) (.cells #[.int .i64 r', .int .i64 m'] 23))
  have hcs : (r > r' ∧ R = true) ∨ (¬ r > r' ∧ (True → (r == r') = false) ∧ R = false) ∨ (¬ r > r' ∧ (True → (r == r') = true) ∧ m > m' ∧ R = true) ∨ (¬ r > r' ∧ (True → (r == r') = true) ∧ ¬ m > m' ∧ R = false) := by
    subst hR
    unfold laterB
    by_cases h1 : r' < r
    · exact .inl ⟨h1, by simp [h1]⟩
    · by_cases h2 : r = r'
      · by_cases h3 : m' < m
        · exact .inr (.inr (.inl ⟨h1, fun _ => by simp [h2], h3, by simp [h2, h3]⟩))
        · exact .inr (.inr (.inr ⟨h1, fun _ => by simp [h2], h3, by simp [h2, h3]⟩))
      · exact .inr (.inl ⟨h1, fun _ => by simp [h2], by simp [h1, h2]⟩)
  clear hR
  go_enter Try.func29, Try.ntmps29
  rcases hcs with ⟨h1, hr⟩ | ⟨h1, h2, hr⟩ | ⟨h1, h2, h3, hr⟩ | ⟨h1, h2, h3, hr⟩
  all_goals
    have HR := Lib.hid hr
    clear hr
    go_wp2
    go_ret
    exact ⟨by rw [HR.out]; rfl, HB.out⟩
set_option maxHeartbeats 8000000 in
theorem rValue_any (s : ByteArray) (w : World) : Calls Try.prog 44 #[.string s] w fun e w' => e = .returned (.bool (okTxt s)) ∧ Below w.heap.size w w' := by
  obtain ⟨R, hR⟩ : ∃ R, okTxt s = R := ⟨_, rfl⟩
  rw [hR]
  have hcs : (¬ 1 ≤ s.size ∧ R = false) ∨ (1 ≤ s.size ∧ ¬ s.size ≤ 256 ∧ R = false) ∨ (1 ≤ s.size ∧ s.size ≤ 256 ∧ R = true) := by
    subst hR
    unfold okTxt
    by_cases h1 : 1 ≤ s.size
    · by_cases h2 : s.size ≤ 256
      · exact .inr (.inr ⟨h1, h2, by simp [h1, h2]⟩)
      · exact .inr (.inl ⟨h1, h2, by simp [h2]⟩)
    · exact .inl ⟨h1, by simp [h1]⟩
  obtain ⟨n, hn⟩ : ∃ n, s.size = n := ⟨_, rfl⟩
  rw [hn] at hcs
  have HN := Lib.hid hn
  clear hR hn
  go_enter Try.func44, Try.ntmps44
  rcases hcs with ⟨h1, hr⟩ | ⟨h1, h2, hr⟩ | ⟨h1, h2, hr⟩
  all_goals
    have HR := Lib.hid hr
    have hs : True → s.size = n := fun _ => HN.out
    clear hr
    go_wp2
    go_ret
    exact ⟨by rw [HR.out]; first | rfl | (simp; omega), Below.refl _ _⟩

set_option maxHeartbeats 8000000 in
set_option maxRecDepth 100000 in
/-- The document's Same, of two that are the same. -/
theorem rSame_self (va vb : Value) (a : AccV) (w : World) (ha : AccR w va a) (hb : AccR w vb a) : Calls Try.prog 12 #[va, vb] w fun e w' => e = .returned (.bool true) ∧ Below w.heap.size w w' := by
  obtain ⟨s1, rfl, hs1⟩ := ha
  obtain ⟨s2, rfl, hs2⟩ := hb
  have HT := Lib.hid (fun u (hu : Below w.heap.size w u) => Texts_any s1 s2 a.com a.com u (hs1.keep hu) (hs2.keep hu))
  rw [decide_eq_true rfl] at HT
  obtain ⟨x1, y1, rfl⟩ := hs1.slice
  obtain ⟨x2, y2, rfl⟩ := hs2.slice
  have h2 := two_at w (.cells #[.int .i64 a.pr, .int .i64 a.pm, .bool a.has, .int .i64 a.ar, .int .i64 a.am, .string a.val, .slice x1 a.com.length y1] 26) (.cells #[.int .i64 a.pr, .int .i64 a.pm, .bool a.has, .int .i64 a.ar, .int .i64 a.am, .string a.val, .slice x2 a.com.length y2] 26)
  have hB := (below_new w (.cells #[.int .i64 a.pr, .int .i64 a.pm, .bool a.has, .int .i64 a.ar, .int .i64 a.am, .string a.val, .slice x1 a.com.length y1] 26)).alloc (by simp) (.cells #[.int .i64 a.pr, .int .i64 a.pm, .bool a.has, .int .i64 a.ar, .int .i64 a.am, .string a.val, .slice x2 a.com.length y2] 26)
  obtain ⟨pr, pm, has, ar, am, val, com⟩ := a
  unfold AccV.agg
  simp only at HT h2 hB ⊢
  obtain ⟨L, hL⟩ : ∃ L, com.length = L := ⟨_, rfl⟩
  rw [hL] at HT h2 hB ⊢
  have HX1 : Hid (ABox _ w.heap.size pr pm has ar am val (.slice x1 L y1)) := Lib.hid h2.1
  have HX2 : Hid (ABox _ (w.heap.size + 1) pr pm has ar am val (.slice x2 L y2)) := Lib.hid h2.2
  have HB := Lib.hid hB
  clear hs1 hs2 h2 hB hL
  go_enter Try.func12, Try.ntmps12
  go_upto_region 1 with fail
  generalize ((w.alloc _).alloc _) = W at HX1 HX2 HB ⊢
  obtain ⟨c0, c1, c2, c3, c4, c5, c6⟩ := HX1.out.cells
  obtain ⟨d0, d1, d2, d3, d4, d5, d6⟩ := HX2.out.cells
  go_wp2_with (go_at_call 19; refine (HT.out _ HB.out).mono ?_; rintro e w5 ⟨rfl, hb⟩; have HB5 := Lib.hid (HB.out.trans (hb.mono HB.out.size)); clear hb)
  go_ret
  exact ⟨rfl, HB5.out⟩

/-- The boxes of the document's Copy: the argument, the result, the copy. -/
structure CpB (w : World) (N M : Nat) (a : AccV) (s s' : Value) (W : World) : Prop where
  bel : Below w.heap.size w W
  one : ABox W N a.pr a.pm a.has a.ar a.am a.val s
  two : ABox W (N + 1) 0 0 false 0 0 { data := #[] } (.slice none 0 0)
  cp : ABox W M a.pr a.pm a.has a.ar a.am a.val s'
  hN : N = w.heap.size
  hM : N + 1 < M
theorem CpB.keep {w : World} {N M : Nat} {a : AccV} {s s' : Value} {W W' : World} (h : CpB w N M a s s' W) (hb : Below W.heap.size W W') : CpB w N M a s s' W' := ⟨h.bel.trans (hb.mono h.bel.size), h.one.keep hb, h.two.keep hb, h.cp.keep hb, h.hN, h.hM⟩
theorem CpB.row {w : World} {N M : Nat} {a : AccV} {s s' : Value} {W : World} (h : CpB w N M a s s' W) (t : Value) : CpB w N M a s t (W.setCell ⟨M, 6, none⟩ t) := by
  have h1 := h.hN; have h2 := h.hM
  exact ⟨h.bel.setCell (p := ⟨M, 6, none⟩) (by show w.heap.size ≤ M; omega) _, (heap_setCell_other _ _ _ _ (by show N ≠ M; omega)).trans h.one, (heap_setCell_other _ _ _ _ (by show N + 1 ≠ M; omega)).trans h.two, h.cp.row t, h.hN, h.hM⟩

set_option maxHeartbeats 8000000 in
set_option maxRecDepth 100000 in
theorem rCopy_any (v : Value) (a : AccV) (w : World) (h : AccR w v a) (hl : a.com.length * 16 ≤ 140737488355328) : Calls Try.prog 9 #[v] w (AccS w a) := by
  obtain ⟨s, rfl, hs⟩ := h
  have HSl := Lib.hid (fun u (hu : Below w.heap.size w u) => hs.keep hu)
  have HLm := Lib.hid hl
  obtain ⟨x, y, rfl⟩ := hs.slice
  have HX := Lib.hid (two_new w a.pr a.pm a.has a.ar a.am a.val (.slice x a.com.length y))
  unfold AccS AccV.agg
  clear hs hl
  obtain ⟨L, hL⟩ : ∃ L, a.com.length = L := ⟨_, rfl⟩
  have HLn := Lib.hid hL
  rw [hL] at HX HSl HLm ⊢
  clear hL
  go_enter Try.func9, Try.ntmps9
  go_upto_region 1 with fail
  generalize ((w.alloc (.cells #[.int .i64 a.pr, .int .i64 a.pm, .bool a.has, .int .i64 a.ar, .int .i64 a.am, .string a.val, .slice x L y] 26)).alloc (.cells #[.int .i64 0, .int .i64 0, .bool false, .int .i64 0, .int .i64 0, .string { data := #[] }, .slice none 0 0] 26)) = W at HX ⊢
  obtain ⟨c0, c1, c2, c3, c4, c5, c6⟩ := HX.out.one.cells
  go_upto_region 2 with fail
  have hb := below_new W (.cells #[.int .i64 a.pr, .int .i64 a.pm, .bool a.has, .int .i64 a.ar, .int .i64 a.am, .string a.val, .slice x L y] 26)
  have HC : Hid (CpB w w.heap.size W.heap.size a (.slice x L y) (.slice x L y) (W.alloc (.cells #[.int .i64 a.pr, .int .i64 a.pm, .bool a.has, .int .i64 a.ar, .int .i64 a.am, .string a.val, .slice x L y] 26))) := Lib.hid ⟨HX.out.bel.trans (hb.mono HX.out.bel.size), HX.out.one.keep hb, HX.out.two.keep hb, abox_new W _ _ _ _ _ _ _, rfl, HX.out.two.lt⟩
  clear hb c0 c1 c2 c3 c4 c5 c6
  generalize W.alloc _ = W1 at HC ⊢
  generalize W.heap.size = M at HC ⊢
  have e6 := HC.out.cp.cells.2.2.2.2.2.2
  have f6 := HC.out.cp.thaw 6
  go_upto_region 3 with fail
  have HC2 := Lib.hid (HC.out.row (.slice none 0 0))
  clear e6 f6
  generalize W1.setCell ⟨M, 6, none⟩ _ = W2 at HC2 ⊢
  have e6 := HC2.out.cp.cells.2.2.2.2.2.2
  have c6 := HC2.out.one.cells.2.2.2.2.2.2
  go_upto_region 4 with (at_builtin; refine appSl tx_len tx_one (by decide) rfl _ _ 24 rfl W2.heap.size 9 _ (by rfl) 16 Try.underlying24 infoTxt _ [] rfl (Own.nil _ _ _) _ a.com rfl (HSl.out _ HC2.out.bel) (by have := HLm.out; have := HLn.out; unfold maxLen; simp; omega) (by have := HLm.out; have := HLn.out; simp; omega) (Nat.le_refl _) ?_; intro v2 w2 ho2 hk2; obtain ⟨x2, y2, hv2⟩ := ho2.slice; rw [List.nil_append] at ho2 hv2; rw [HLn.out] at hv2; subst hv2; have HC3 := Lib.hid (HC2.out.keep hk2.toBelow); have HO3 := Lib.hid (ho2.mono (show M + 1 ≤ _ from HC2.out.cp.lt)); clear ho2 hk2 e6 c6; have e6 := HC3.out.cp.cells.2.2.2.2.2.2; have f6 := HC3.out.cp.thaw 6)
  have HC4 := Lib.hid (HC3.out.row (.slice x2 L y2))
  have HO4 := Lib.hid (HO3.out.far6 (N := M) (by omega) 6 (.slice x2 L y2))
  clear e6 f6
  generalize w2.setCell ⟨M, 6, none⟩ _ = W4 at HC4 HO4 ⊢
  obtain ⟨c0, c1, c2, c3, c4, c5, c6⟩ := HC4.out.cp.cells
  go_wp2_with (refine wpList_store_mid rfl 26 _ _ rfl (w.heap.size + 1) 0 #[.int .i64 a.pr, .int .i64 a.pm, .bool a.has, .int .i64 a.ar, .int .i64 a.am, .string a.val, .slice x2 L y2] rfl rfl HC4.out.two.there sizeAcc (acc_one _ _ _ _ _ _ _ _ _) ?_)
  refine bodyPost_ret (ret_cell rfl rfl (HC4.out.two.put a.pr a.pm a.has a.ar a.am a.val (.slice x2 L y2)).range Try.underlying26 rfl sizeAcc) rfl ?_
  exact ⟨_, rfl, (Own.farC (N := w.heap.size + 1) (by have := HC4.out.hM; omega) _ _ HO4.out).mono (by have := HC4.out.hM; omega), Below.setCells HC4.out.bel (b := w.heap.size + 1) (by omega) 0 _⟩
end Go.Proofs.Ytmdipcemhaomhaa.crush
