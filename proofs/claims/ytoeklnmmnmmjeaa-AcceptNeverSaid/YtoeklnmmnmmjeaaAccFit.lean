/- Fit, by the program; Prepare. -/
import Derived.Test.YtoeklnmmnmmjeaaRows
import Derived.Test.YtoeklnmmnmmjeaaAccBox
namespace Go.Proofs.Ytoeklnmmnmmjeaa.crush
open Go.RowKit
open Go.Proofs.Ytoeklnmmnmmjeaa.kit Go.Proofs.Ytoeklnmmnmmjeaa.own
set_option linter.unusedVariables false
set_option linter.unusedSimpArgs false

def okPr (r m : Int) : Bool := okBal r m || (decide (r = 0) && decide (m = 0))
def okAt (a : AccV) : Bool := if a.has then okBal a.ar a.am && (!laterB a.ar a.am a.pr a.pm && okTxt a.val) else decide (a.ar = 0) && (decide (a.am = 0) && decide (a.val.size = 0))
def okCom (l : List ByteArray) : Bool := decide (l.length ≤ 4096) && l.all okTxt
def okA (a : AccV) : Bool := okPr a.pr a.pm && (okAt a && okCom a.com)

set_option maxHeartbeats 8000000 in
theorem fitPromised_any (r m : Int) (w : World) : Calls Try.prog 35 #[.agg #[.int .i64 r, .int .i64 m]] w fun e w' => e = .returned (.bool (okPr r m)) ∧ Below w.heap.size w w' := by
  obtain ⟨R, hR⟩ : ∃ R, okPr r m = R := ⟨_, rfl⟩
  obtain ⟨q, hq⟩ : ∃ q, okBal r m = q := ⟨_, rfl⟩
  have HP := Lib.hid (fun u => proper_any r m u)
  rw [hq] at HP
  rw [hR]
  unfold okPr at hR
  rw [hq] at hR
  have HB := Lib.hid (below_new w (.cells #[.int .i64 r, .int .i64 m] 23))
  have hcs : ((True → (r == 0) = false) ∧ q = R) ∨ ((True → (r == 0) = true) ∧ (True → (m == 0) = false) ∧ q = R) ∨ ((True → (r == 0) = true) ∧ (True → (m == 0) = true) ∧ R = true) := by
    subst hR
    by_cases h1 : r = 0
    · by_cases h2 : m = 0
      · exact .inr (.inr ⟨fun _ => by simp [h1], fun _ => by simp [h2], by simp [h1, h2]⟩)
      · exact .inr (.inl ⟨fun _ => by simp [h1], fun _ => by simp [h2], by simp [h2]⟩)
    · exact .inl ⟨fun _ => by simp [h1], by simp [h1]⟩
  clear hR hq
  go_enter Try.func35, Try.ntmps35
  rcases hcs with ⟨h1, hr⟩ | ⟨h1, h2, hr⟩ | ⟨h1, h2, hr⟩
  all_goals
    have HR := Lib.hid hr
    clear hr
    go_wp2_with (go_at_call 30; refine (HP.out _).mono ?_; rintro e w5 ⟨rfl, hb⟩; have HB5 := Lib.hid (HB.out.trans (hb.mono HB.out.size)); clear hb)
    go_ret
    first
      | exact ⟨by rw [← HR.out]; rfl, HB5.out⟩
      | exact ⟨by rw [HR.out]; rfl, HB.out⟩

set_option maxHeartbeats 8000000 in
set_option maxRecDepth 100000 in
theorem fitAccepted_any (v : Value) (a : AccV) (w : World) (h : AccR w v a) : Calls Try.prog 36 #[v] w fun e w' => e = .returned (.bool (okAt a)) ∧ Below w.heap.size w w' := by
  obtain ⟨s, rfl, hs⟩ := h
  obtain ⟨x, y, rfl⟩ := hs.slice
  obtain ⟨R, hR⟩ : ∃ R, okAt a = R := ⟨_, rfl⟩
  rw [hR]
  obtain ⟨pr, pm, has, ar, am, val, com⟩ := a
  unfold okAt at hR
  simp only at hR
  unfold AccV.agg
  simp only
  have HX := Lib.hid (abox_new w pr pm has ar am val (.slice x com.length y))
  have HB := Lib.hid (below_new w (.cells #[.int .i64 pr, .int .i64 pm, .bool has, .int .i64 ar, .int .i64 am, .string val, .slice x com.length y] 26))
  obtain ⟨q1, hq1⟩ : ∃ q, okBal ar am = q := ⟨_, rfl⟩
  obtain ⟨q2, hq2⟩ : ∃ q, laterB ar am pr pm = q := ⟨_, rfl⟩
  obtain ⟨q3, hq3⟩ : ∃ q, okTxt val = q := ⟨_, rfl⟩
  have HP := Lib.hid (fun u => proper_any ar am u)
  have HL := Lib.hid (fun u => Later_any ar am pr pm u)
  have HV := Lib.hid (fun u => fitValue_any val u)
  rw [hq1] at HP hR; rw [hq2] at HL hR; rw [hq3] at HV hR
  clear hs hq1 hq2 hq3
  have hcs : (has = false ∧ (((True → (ar == 0) = false) ∧ R = false) ∨ ((True → (ar == 0) = true) ∧ (True → (am == 0) = false) ∧ R = false) ∨ ((True → (ar == 0) = true) ∧ (True → (am == 0) = true) ∧ R = decide (val.size = 0)))) ∨
      (has = true ∧ ((q1 = false ∧ R = false) ∨ (q1 = true ∧ q2 = true ∧ R = false) ∨ (q1 = true ∧ q2 = false ∧ q3 = R))) := by
    subst hR
    cases has with
    | false =>
      refine .inl ⟨rfl, ?_⟩
      by_cases h1 : ar = 0
      · by_cases h2 : am = 0
        · exact .inr (.inr ⟨fun _ => by simp [h1], fun _ => by simp [h2], by rw [if_neg Bool.false_ne_true, decide_eq_true h1, decide_eq_true h2]; rfl⟩)
        · exact .inr (.inl ⟨fun _ => by simp [h1], fun _ => by simp [h2], by rw [if_neg Bool.false_ne_true, decide_eq_false h2, Bool.false_and, Bool.and_false]⟩)
      · exact .inl ⟨fun _ => by simp [h1], by rw [if_neg Bool.false_ne_true, decide_eq_false h1, Bool.false_and]⟩
    | true =>
      refine .inr ⟨rfl, ?_⟩
      cases q1 with
      | false => exact .inl ⟨rfl, rfl⟩
      | true =>
        cases q2 with
        | true => exact .inr (.inl ⟨rfl, rfl, rfl⟩)
        | false => exact .inr (.inr ⟨rfl, rfl, by cases q3 <;> rfl⟩)
  have hemp : val.toList.isEmpty = decide (val.size = 0) := by
    rw [ByteArray.toList_eq]
    have : val.size = val.data.toList.length := Array.length_toList.symm
    rw [this]
    cases val.data.toList <;> simp
  have HE := Lib.hid hemp
  clear hR hemp
  go_enter Try.func36, Try.ntmps36
  go_upto_region 1 with fail
  generalize (w.alloc (.cells #[.int .i64 pr, .int .i64 pm, .bool has, .int .i64 ar, .int .i64 am, .string val, .slice x com.length y] 26)) = W at HB HX ⊢
  obtain ⟨c0, c1, c2, c3, c4, c5, c6⟩ := HX.out.cells
  rcases hcs with ⟨rfl, ⟨h1, hr⟩ | ⟨h1, h2, hr⟩ | ⟨h1, h2, hr⟩⟩ | ⟨rfl, ⟨rfl, hr⟩ | ⟨rfl, rfl, hr⟩ | ⟨rfl, rfl, hr⟩⟩
  all_goals
    have HR := Lib.hid hr
    clear hr
    go_wp2_with (first
      | (go_at_call 30; refine (HP.out _).mono ?_; rintro e w5 ⟨rfl, hb⟩; have HB5 := Lib.hid (HB.out.trans (hb.mono HB.out.size)); obtain ⟨d0, d1, d2, d3, d4, d5, d6⟩ := (HX.out.keep hb).cells; have HX5 := Lib.hid (HX.out.keep hb); clear hb c0 c1 c2 c3 c4 c5 c6)
      | (go_at_call 22; refine (HL.out _).mono ?_; rintro e w6 ⟨rfl, hb⟩; have HB6 := Lib.hid (HB5.out.trans (hb.mono HB5.out.size)); obtain ⟨c0, c1, c2, c3, c4, c5, c6⟩ := (HX5.out.keep hb).cells; clear hb d0 d1 d2 d3 d4 d5 d6)
      | (go_at_call 31; refine (HV.out _).mono ?_; rintro e w7 ⟨rfl, hb⟩; have HB7 := Lib.hid (HB6.out.trans (hb.mono HB6.out.size)); clear hb))
    go_ret
    first
      | exact ⟨by rw [← HR.out]; rfl, HB7.out⟩
      | exact ⟨by rw [HR.out]; rfl, HB6.out⟩
      | exact ⟨by rw [HR.out]; rfl, HB5.out⟩
      | exact ⟨by rw [HR.out]; rfl, HB.out⟩
      | exact ⟨by rw [HR.out, ← HE.out]; rfl, HB.out⟩

set_option maxHeartbeats 8000000 in
set_option maxRecDepth 100000 in
theorem fitCommits_any (v : Value) (l : List ByteArray) (w : World) (h : Sl tx 1 w v l) : Calls Try.prog 37 #[v] w fun e w' => e = .returned (.bool (okCom l)) ∧ Below w.heap.size w w' := by
  have HC := Lib.hid (containsFT v l (fun x => !okTxt x) w h (fun x u _ => unfit_any x u))
  obtain ⟨x, y, rfl⟩ := h.slice
  obtain ⟨R, hR⟩ : ∃ R, okCom l = R := ⟨_, rfl⟩
  rw [hR]
  obtain ⟨q, hq⟩ : ∃ q, (l.any fun x => !okTxt x) = q := ⟨_, rfl⟩
  rw [hq] at HC
  have hall : l.all okTxt = !q := by rw [← hq, List.not_any_eq_all_not]; simp
  unfold okCom at hR
  rw [hall] at hR
  obtain ⟨L, hL⟩ : ∃ L, l.length = L := ⟨_, rfl⟩
  rw [hL] at hR HC ⊢
  have hcs : (¬ (L : Int) ≤ 4096 ∧ R = false) ∨ ((L : Int) ≤ 4096 ∧ R = !q) := by
    subst hR
    by_cases h1 : L ≤ 4096
    · exact .inr ⟨by omega, by simp [h1]⟩
    · exact .inl ⟨by omega, by simp [h1]⟩
  clear hR hq hall hL h
  go_enter Try.func37, Try.ntmps37
  rcases hcs with ⟨h1, hr⟩ | ⟨h1, hr⟩
  all_goals
    have HR := Lib.hid hr
    clear hr
    go_wp2_with (go_at_call 42; refine HC.out.mono ?_; rintro e w5 ⟨rfl, hb⟩; have HB5 := Lib.hid hb; clear hb)
    go_ret
    first
      | exact ⟨by rw [HR.out]; rfl, HB5.out⟩
      | exact ⟨by rw [HR.out]; rfl, Below.refl _ _⟩
set_option maxHeartbeats 8000000 in
set_option maxRecDepth 100000 in
theorem Fit_any (v : Value) (a : AccV) (w : World) (h : AccR w v a) : Calls Try.prog 21 #[v] w fun e w' => e = .returned (.bool (okA a)) ∧ Below w.heap.size w w' := by
  have HRd := Lib.hid h
  obtain ⟨s, rfl, hs⟩ := h
  have HSl := Lib.hid hs
  obtain ⟨x, y, rfl⟩ := hs.slice
  obtain ⟨R, hR⟩ : ∃ R, okA a = R := ⟨_, rfl⟩
  rw [hR]
  have HX := Lib.hid (abox_new w a.pr a.pm a.has a.ar a.am a.val (.slice x a.com.length y))
  have HB := Lib.hid (below_new w (.cells #[.int .i64 a.pr, .int .i64 a.pm, .bool a.has, .int .i64 a.ar, .int .i64 a.am, .string a.val, .slice x a.com.length y] 26))
  have HP := Lib.hid (fun u => fitPromised_any a.pr a.pm u)
  have HA := Lib.hid (fun u (hu : Below w.heap.size w u) => fitAccepted_any _ a u (HRd.out.keep hu))
  have HC := Lib.hid (fun u (hu : Below w.heap.size w u) => fitCommits_any _ a.com u (HSl.out.keep hu))
  unfold okA at hR
  unfold AccV.agg at HA ⊢
  obtain ⟨q1, hq1⟩ : ∃ q, okPr a.pr a.pm = q := ⟨_, rfl⟩
  obtain ⟨q2, hq2⟩ : ∃ q, okAt a = q := ⟨_, rfl⟩
  obtain ⟨q3, hq3⟩ : ∃ q, okCom a.com = q := ⟨_, rfl⟩
  rw [hq1] at HP hR; rw [hq2] at HA hR; rw [hq3] at HC hR
  have hcs : (q1 = false ∧ R = false) ∨ (q1 = true ∧ q2 = false ∧ R = false) ∨ (q1 = true ∧ q2 = true ∧ R = q3) := by
    subst hR
    cases q1 with
    | false => exact .inl ⟨rfl, rfl⟩
    | true =>
      cases q2 with
      | false => exact .inr (.inl ⟨rfl, rfl, rfl⟩)
      | true => exact .inr (.inr ⟨rfl, rfl, rfl⟩)
  clear hs hq1 hq2 hq3 hR HRd HSl
  obtain ⟨pr, pm, has, ar, am, val, com⟩ := a
  simp only at HX HB HP HA HC ⊢
  obtain ⟨L, hL⟩ : ∃ L, com.length = L := ⟨_, rfl⟩
  rw [hL] at HX HB HA HC ⊢
  clear hL
  go_enter Try.func21, Try.ntmps21
  go_upto_region 1 with fail
  generalize (w.alloc (.cells #[.int .i64 pr, .int .i64 pm, .bool has, .int .i64 ar, .int .i64 am, .string val, .slice x L y] 26)) = W at HB HX ⊢
  obtain ⟨c0, c1, c2, c3, c4, c5, c6⟩ := HX.out.cells
  rcases hcs with ⟨rfl, hr⟩ | ⟨rfl, rfl, hr⟩ | ⟨rfl, rfl, hr⟩
  all_goals
    have HR := Lib.hid hr
    clear hr
    go_wp2_with (first
      | (go_at_call 35; refine (HP.out _).mono ?_; rintro e w5 ⟨rfl, hb⟩; have HB5 := Lib.hid (HB.out.trans (hb.mono HB.out.size)); obtain ⟨d0, d1, d2, d3, d4, d5, d6⟩ := (HX.out.keep hb).cells; have HX5 := Lib.hid (HX.out.keep hb); clear hb c0 c1 c2 c3 c4 c5 c6)
      | (go_at_call 36; refine (HA.out _ HB5.out).mono ?_; rintro e w6 ⟨rfl, hb⟩; have HB6 := Lib.hid (HB5.out.trans (hb.mono HB5.out.size)); obtain ⟨c0, c1, c2, c3, c4, c5, c6⟩ := (HX5.out.keep hb).cells; clear hb d0 d1 d2 d3 d4 d5 d6)
      | (go_at_call 37; refine (HC.out _ HB6.out).mono ?_; rintro e w7 ⟨rfl, hb⟩; have HB7 := Lib.hid (HB6.out.trans (hb.mono HB6.out.size)); clear hb))
    go_ret
    first
      | exact ⟨by rw [HR.out]; rfl, HB7.out⟩
      | exact ⟨by rw [HR.out]; rfl, HB6.out⟩
      | exact ⟨by rw [HR.out]; rfl, HB5.out⟩
end Go.Proofs.Ytoeklnmmnmmjeaa.crush
