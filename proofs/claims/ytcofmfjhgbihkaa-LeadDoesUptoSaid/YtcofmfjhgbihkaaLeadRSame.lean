/- The document's Same. -/
import Derived.Test.YtcofmfjhgbihkaaRows
import Derived.Test.YtcofmfjhgbihkaaLeadEq
namespace Go.Proofs.Ytcofmfjhgbihkaa.crush
open Go.RowKit
open Go.Proofs.Ytcofmfjhgbihkaa.kit Go.Proofs.Ytcofmfjhgbihkaa.own
set_option linter.unusedVariables false
set_option linter.unusedSimpArgs false

theorem get_ne {α : Type} {xs ys : List α} {k : Nat} (h1 : k < xs.length) (h2 : k < ys.length) {x y : α} (hx : xs[k] = x) (hy : ys[k] = y) (hne : ¬ x = y) : ¬ xs = ys := by
  rintro rfl
  exact hne (hx.symm.trans hy)
set_option maxHeartbeats 32000000 in
set_option maxRecDepth 100000 in
theorem rSameL_any (va vb : Value) (l m : LeadV) (w : World) (ha : LdR w va l) (hb : LdR w vb m) : Calls Try.prog 10 #[va, vb] w fun e w' => e = .returned (.bool (sameB l m)) ∧ Below w.heap.size w w' := by
  obtain ⟨a1, a2, rfl, r1, r2⟩ := ha
  obtain ⟨b1, b2, rfl, s1, s2⟩ := hb
  obtain ⟨x1, y1, rfl⟩ := r1.slice; obtain ⟨x2, y2, rfl⟩ := r2.slice
  obtain ⟨p1, q1, rfl⟩ := s1.slice; obtain ⟨p2, q2, rfl⟩ := s2.slice
  have hl1 := r1.1; have hl2 := r2.1
  obtain ⟨R, hR⟩ : ∃ R, sameB l m = R := ⟨_, rfl⟩
  rw [hR]
  have HF : Hid (¬ (l.st = m.st ∧ l.r = m.r ∧ l.m = m.m ∧ l.has = m.has ∧ l.val = m.val ∧ l.ps = m.ps ∧ l.ak = m.ak) → R = false) := Lib.hid (fun h => by
    rw [← hR]
    cases hh : sameB l m with
    | false => rfl
    | true =>
      unfold sameB at hh
      simp only [Bool.and_eq_true, decide_eq_true_eq] at hh
      exact absurd ⟨hh.1, hh.2.1.1, hh.2.1.2, hh.2.2.2.1, hh.2.2.2.2.1, hh.2.2.1, hh.2.2.2.2.2⟩ h)
  have HT : Hid (l.st = m.st ∧ l.r = m.r ∧ l.m = m.m ∧ l.has = m.has ∧ l.val = m.val ∧ l.ps = m.ps ∧ l.ak = m.ak → R = true) := Lib.hid (fun h => by
    rw [← hR]
    unfold sameB
    simp [h])
  have HRP := Lib.hid (fun u (hu : Below w.heap.size w u) => r1.keep hu); have HRA := Lib.hid (fun u (hu : Below w.heap.size w u) => r2.keep hu)
  have HSP := Lib.hid (fun u (hu : Below w.heap.size w u) => s1.keep hu); have HSA := Lib.hid (fun u (hu : Below w.heap.size w u) => s2.keep hu)
  unfold LeadV.agg
  have h2 := two_atL w (.cells #[.int .i64 l.st, .int .i64 l.r, .int .i64 l.m, .slice x1 l.ps.length y1, .bool l.has, .string l.val, .slice x2 l.ak.length y2] 27) (.cells #[.int .i64 m.st, .int .i64 m.r, .int .i64 m.m, .slice p1 m.ps.length q1, .bool m.has, .string m.val, .slice p2 m.ak.length q2] 27)
  have hB : Below w.heap.size w ((w.alloc (.cells #[.int .i64 l.st, .int .i64 l.r, .int .i64 l.m, .slice x1 l.ps.length y1, .bool l.has, .string l.val, .slice x2 l.ak.length y2] 27)).alloc (.cells #[.int .i64 m.st, .int .i64 m.r, .int .i64 m.m, .slice p1 m.ps.length q1, .bool m.has, .string m.val, .slice p2 m.ak.length q2] 27)) := (below_new w _).alloc (by simp) _
  have hX : LBox _ w.heap.size l.st l.r l.m (.slice x1 l.ps.length y1) l.has l.val (.slice x2 l.ak.length y2) := h2.1
  have hY : LBox _ (w.heap.size + 1) m.st m.r m.m (.slice p1 m.ps.length q1) m.has m.val (.slice p2 m.ak.length q2) := h2.2
  have HB := Lib.hid hB; have HX := Lib.hid hX; have HY := Lib.hid hY
  clear hB hX hY h2 r1 r2 s1 s2 hR
  obtain ⟨k1, e1⟩ : ∃ k, l.ps.length = k := ⟨_, rfl⟩
  obtain ⟨k2, e2⟩ : ∃ k, l.ak.length = k := ⟨_, rfl⟩
  obtain ⟨l1, f1⟩ : ∃ k, m.ps.length = k := ⟨_, rfl⟩
  obtain ⟨l2, f2⟩ : ∃ k, m.ak.length = k := ⟨_, rfl⟩
  have HK1 := Lib.hid e1; have HK2 := Lib.hid e2
  have HL1 := Lib.hid f1; have HL2 := Lib.hid f2
  rw [e1] at hl1 HRP HX HB ⊢; rw [e2] at hl2 HRA HX HB ⊢
  rw [f1] at HSP HY HB HX ⊢; rw [f2] at HSA HY HB HX ⊢
  try rw [e1] at HY
  try rw [e2] at HY
  clear e1 e2 f1 f2
  have mixed : Try.prog.follows .mixedOrders = true := by kernel_rfl
  have hcs : ((True → (l.st != m.st) = true) ∧ R = false) ∨ (l.st = m.st ∧ (¬ l.r = m.r ∨ (l.r = m.r ∧ ¬ l.m = m.m)) ∧ R = false) ∨ (l.st = m.st ∧ l.r = m.r ∧ l.m = m.m ∧ l.has ≠ m.has ∧ R = false) ∨ (l.st = m.st ∧ l.r = m.r ∧ l.m = m.m ∧ l.has = m.has ∧ (True → (l.val.toList == m.val.toList) = false) ∧ R = false) ∨ (l.st = m.st ∧ l.r = m.r ∧ l.m = m.m ∧ l.has = m.has ∧ l.val = m.val ∧ (True → ((k1 : Int) != (l1 : Int)) = true) ∧ R = false) ∨ (l.st = m.st ∧ l.r = m.r ∧ l.m = m.m ∧ l.has = m.has ∧ l.val = m.val ∧ k1 = l1 ∧ (True → ((k2 : Int) != (l2 : Int)) = true) ∧ R = false) ∨ (l.st = m.st ∧ l.r = m.r ∧ l.m = m.m ∧ l.has = m.has ∧ l.val = m.val ∧ k1 = l1 ∧ k2 = l2) := by
    by_cases h0 : l.st = m.st
    · by_cases h1 : l.r = m.r
      · by_cases h2 : l.m = m.m
        · by_cases h3 : l.has = m.has
          · by_cases h4 : l.val = m.val
            · by_cases h5 : k1 = l1
              · by_cases h6 : k2 = l2
                · exact .inr (.inr (.inr (.inr (.inr (.inr ⟨h0, h1, h2, h3, h4, h5, h6⟩)))))
                · exact .inr (.inr (.inr (.inr (.inr (.inl ⟨h0, h1, h2, h3, h4, h5, fun _ => by simp; omega, HF.out (fun h => h6 (by rw [← HK2.out, ← HL2.out, h.2.2.2.2.2.2]))⟩)))))
              · exact .inr (.inr (.inr (.inr (.inl ⟨h0, h1, h2, h3, h4, fun _ => by simp; omega, HF.out (fun h => h5 (by rw [← HK1.out, ← HL1.out, h.2.2.2.2.2.1]))⟩))))
            · exact .inr (.inr (.inr (.inl ⟨h0, h1, h2, h3, fun _ => text_ne h4, HF.out (fun h => h4 h.2.2.2.2.1)⟩)))
          · exact .inr (.inr (.inl ⟨h0, h1, h2, h3, HF.out (fun h => h3 h.2.2.2.1)⟩))
        · exact .inr (.inl ⟨h0, .inr ⟨h1, h2⟩, HF.out (fun h => h2 h.2.2.1)⟩)
      · exact .inr (.inl ⟨h0, .inl h1, HF.out (fun h => h1 h.2.1)⟩)
    · exact .inl ⟨fun _ => by simp [h0], HF.out (fun h => h0 h.1)⟩
  obtain ⟨st, r, mm, ps, has, val, ak⟩ := l
  obtain ⟨st', r', mm', ps', has', val', ak'⟩ := m
  simp only at hcs HF HT HRP HRA HSP HSA HX HY HB HK1 HK2 HL1 HL2 ⊢
  rcases hcs with ⟨h0, hr⟩ | ⟨rfl, h0, hr⟩ | ⟨rfl, rfl, rfl, h0, hr⟩ | ⟨rfl, rfl, rfl, rfl, h0, hr⟩ | ⟨rfl, rfl, rfl, rfl, rfl, h0, hr⟩ | ⟨rfl, rfl, rfl, rfl, rfl, rfl, h0, hr⟩ | ⟨rfl, rfl, rfl, rfl, rfl, rfl, rfl⟩
  rotate_left 6
  · go_enter Try.func10, Try.ntmps10
    go_upto_region 1 with fail
    generalize ((w.alloc _).alloc _) = W at HB HX HY ⊢
    obtain ⟨c0, c1, c2, c3, c4, c5, c6⟩ := HX.out.cells
    obtain ⟨d0, d1, d2, d3, d4, d5, d6⟩ := HY.out.cells
    have HBw := Lib.hid (fun u (hu : Below W.heap.size W u) => HB.out.trans (hu.mono HB.out.size))
    go_wp2
    clear c0 c1 c2 c3 c4 c5 c6 d0 d1 d2 d3 d4 d5 d6
    go_loopw [5] (fun vi wr => ∃ k : Nat, k ≤ k1 ∧ vi = .int .i64 k ∧ Hid (∀ j (hx : j < ps.length) (hy : j < ps'.length), j < k → ps[j] = ps'[j]) ∧ Below W.heap.size W wr) (fun i _ => k1 - (intOf i).toNat)
    case atStart => exact ⟨0, by omega, rfl, Lib.hid (fun j _ _ h => absurd h (Nat.not_lt_zero _)), Below.refl _ _⟩
    case round =>
      obtain ⟨k, hk, rfl, HN1, hbw⟩ := hrel
      have HBr := Lib.hid hbw
      obtain ⟨c0, c1, c2, c3, c4, c5, c6⟩ := (HX.out.keep hbw).cells
      obtain ⟨d0, d1, d2, d3, d4, d5, d6⟩ := (HY.out.keep hbw).cells
      by_cases hlt : k < k1
      · have hlt' : (k : Int) < k1 := by omega
        have hk0 : (0 : Int) ≤ k := by omega
        have h1 : k < ps.length := by rw [HK1.out]; exact hlt
        have h2 : k < ps'.length := by rw [HL1.out]; exact hlt
        obtain ⟨b1, o1, z1, hl1, hr1⟩ := sl_elem (HRP.out _ (HBw.out _ hbw)) k h1
        obtain ⟨b2, o2, z2, hl2, hr2⟩ := sl_elem (HSP.out _ (HBw.out _ hbw)) k h2
        cases z1; cases z2
        clear hbw hl1 hl2
        obtain ⟨x, hx⟩ : ∃ x, ps[k] = x := ⟨_, rfl⟩
        obtain ⟨y, hy⟩ : ∃ y, ps'[k] = y := ⟨_, rfl⟩
        have HXx := Lib.hid hx; have HYy := Lib.hid hy
        rw [hx] at hr1
        rw [hy] at hr2
        clear hx hy
        obtain ⟨q, hq⟩ : ∃ q, decide (x = y) = q := ⟨_, rfl⟩
        have HQq := Lib.hid hq
        have hQ := fun u => neq_prom x y u
        rw [hq] at hQ
        obtain ⟨pm1, pn1, ph1, pr1, pa1, pt1⟩ := x
        obtain ⟨pm2, pn2, ph2, pr2, pa2, pt2⟩ := y
        simp only [prc] at hQ
        have g10 : wr.cell? ⟨b1, o1 + k * 6, none⟩ = some (.int .i64 pm1) := hr1 0 _ rfl
        have g11 : wr.cell? ⟨b1, o1 + k * 6 + 1, none⟩ = some (.int .i64 pn1) := hr1 1 _ rfl
        have g12 : wr.cell? ⟨b1, o1 + k * 6 + 2, none⟩ = some (.bool ph1) := hr1 2 _ rfl
        have g13 : wr.cell? ⟨b1, o1 + k * 6 + 3, none⟩ = some (.int .i64 pr1) := hr1 3 _ rfl
        have g14 : wr.cell? ⟨b1, o1 + k * 6 + 4, none⟩ = some (.int .i64 pa1) := hr1 4 _ rfl
        have g15 : wr.cell? ⟨b1, o1 + k * 6 + 5, none⟩ = some (.string pt1) := hr1 5 _ rfl
        have g20 : wr.cell? ⟨b2, o2 + k * 6, none⟩ = some (.int .i64 pm2) := hr2 0 _ rfl
        have g21 : wr.cell? ⟨b2, o2 + k * 6 + 1, none⟩ = some (.int .i64 pn2) := hr2 1 _ rfl
        have g22 : wr.cell? ⟨b2, o2 + k * 6 + 2, none⟩ = some (.bool ph2) := hr2 2 _ rfl
        have g23 : wr.cell? ⟨b2, o2 + k * 6 + 3, none⟩ = some (.int .i64 pr2) := hr2 3 _ rfl
        have g24 : wr.cell? ⟨b2, o2 + k * 6 + 4, none⟩ = some (.int .i64 pa2) := hr2 4 _ rfl
        have g25 : wr.cell? ⟨b2, o2 + k * 6 + 5, none⟩ = some (.string pt2) := hr2 5 _ rfl
        clear hr1 hr2 hq
        cases q with
        | false =>
          have HFf : Hid (R = false) := Lib.hid (HF.out (fun h => get_ne h1 h2 HXx.out HYy.out (of_decide_eq_false HQq.out) h.2.2.2.2.2.1))
          go_upto_region 6 with fail
          go_quiet (fail)
          have HB2 := Lib.hid (HBr.out.drewN' nq)
          clear g10 g11 g12 g13 g14 g15 g20 g21 g22 g23 g24 g25 hQ c0 c1 c2 c3 c4 c5 c6 d0 d1 d2 d3 d4 d5 d6
          go_wp2
          go_ret
          exact ⟨by rw [HFf.out]; rfl, HBw.out _ HB2.out⟩
        | true =>
          have HN9 : Hid (∀ j (hx : j < ps.length) (hy : j < ps'.length), j < k + 1 → ps[j] = ps'[j]) := Lib.hid (fun j hx hy h => by
            rcases Nat.lt_or_ge j k with h3 | h3
            · exact HN1.out j hx hy h3
            · obtain rfl : j = k := by omega
              exact HXx.out.trans ((of_decide_eq_true HQq.out).trans HYy.out.symm))
          go_upto_region 6 with fail
          go_quiet (fail)
          have HB2 := Lib.hid (HBr.out.drewN' nq)
          clear g10 g11 g12 g13 g14 g15 g20 g21 g22 g23 g24 g25 hQ c0 c1 c2 c3 c4 c5 c6 d0 d1 d2 d3 d4 d5 d6
          go_wp2
          go_roundw
          case rel => exact ⟨k + 1, by omega, by go_num, HN9, HB2.out⟩
          case measure => simp [intOf]; omega
      · have hlt' : ¬ ((k : Int) < k1) := by omega
        have HEq1 : Hid (ps = ps') := Lib.hid (all_eq HK1.out HL1.out (fun j hx hy h => HN1.out j hx hy (by omega)))
        have HBq := Lib.hid hbw
        clear hbw HBr
        go_wp2
        clear c0 c1 c2 c3 c4 c5 c6 d0 d1 d2 d3 d4 d5 d6
        go_loopw [6] (fun vi wr => ∃ k : Nat, k ≤ k2 ∧ vi = .int .i64 k ∧ Hid (∀ j (hx : j < ak.length) (hy : j < ak'.length), j < k → ak[j] = ak'[j]) ∧ Below W.heap.size W wr) (fun i _ => k2 - (intOf i).toNat)
        case atStart => exact ⟨0, by omega, rfl, Lib.hid (fun j _ _ h => absurd h (Nat.not_lt_zero _)), HBq.out⟩
        case round =>
          obtain ⟨k, hk, rfl, HN2, hbw⟩ := hrel
          have HBr := Lib.hid hbw
          obtain ⟨c0, c1, c2, c3, c4, c5, c6⟩ := (HX.out.keep hbw).cells
          obtain ⟨d0, d1, d2, d3, d4, d5, d6⟩ := (HY.out.keep hbw).cells
          by_cases hlt : k < k2
          · have hlt' : (k : Int) < k2 := by omega
            have hk0 : (0 : Int) ≤ k := by omega
            have h1 : k < ak.length := by rw [HK2.out]; exact hlt
            have h2 : k < ak'.length := by rw [HL2.out]; exact hlt
            obtain ⟨b1, o1, z1, hl1, hr1⟩ := sl_elem (HRA.out _ (HBw.out _ hbw)) k h1
            obtain ⟨b2, o2, z2, hl2, hr2⟩ := sl_elem (HSA.out _ (HBw.out _ hbw)) k h2
            cases z1; cases z2
            clear hbw hl1 hl2
            obtain ⟨x, hx⟩ : ∃ x, ak[k] = x := ⟨_, rfl⟩
            obtain ⟨y, hy⟩ : ∃ y, ak'[k] = y := ⟨_, rfl⟩
            have HXx := Lib.hid hx; have HYy := Lib.hid hy
            rw [hx] at hr1
            rw [hy] at hr2
            clear hx hy
            obtain ⟨q, hq⟩ : ∃ q, decide (x = y) = q := ⟨_, rfl⟩
            have HQq := Lib.hid hq
            have e1 := icell_at hr1
            have e2 := icell_at hr2
            rw [Nat.mul_one] at e1 e2
            have hQ : True → (x != y) = !q := fun _ => by rw [← hq]; by_cases h : x = y <;> simp [h]
            clear hr1 hr2 hq
            cases q with
            | false =>
              have HFf : Hid (R = false) := Lib.hid (HF.out (fun h => get_ne h1 h2 HXx.out HYy.out (of_decide_eq_false HQq.out) h.2.2.2.2.2.2))
              go_upto_region 11 with fail
              go_quiet (fail)
              have HB2 := Lib.hid (HBr.out.drewN' nq)
              clear e1 e2 hQ c0 c1 c2 c3 c4 c5 c6 d0 d1 d2 d3 d4 d5 d6
              go_wp2
              go_ret
              exact ⟨by rw [HFf.out]; rfl, HBw.out _ HB2.out⟩
            | true =>
              have HN9 : Hid (∀ j (hx : j < ak.length) (hy : j < ak'.length), j < k + 1 → ak[j] = ak'[j]) := Lib.hid (fun j hx hy h => by
                rcases Nat.lt_or_ge j k with h3 | h3
                · exact HN2.out j hx hy h3
                · obtain rfl : j = k := by omega
                  exact HXx.out.trans ((of_decide_eq_true HQq.out).trans HYy.out.symm))
              go_upto_region 11 with fail
              go_quiet (fail)
              have HB2 := Lib.hid (HBr.out.drewN' nq)
              clear e1 e2 hQ c0 c1 c2 c3 c4 c5 c6 d0 d1 d2 d3 d4 d5 d6
              go_wp2
              go_roundw
              case rel => exact ⟨k + 1, by omega, by go_num, HN9, HB2.out⟩
              case measure => simp [intOf]; omega
          · have hlt' : ¬ ((k : Int) < k2) := by omega
            have HEq2 : Hid (ak = ak') := Lib.hid (all_eq HK2.out HL2.out (fun j hx hy h => HN2.out j hx hy (by omega)))
            have HBq := Lib.hid hbw
            have HTt : Hid (R = true) := Lib.hid (HT.out (by simp [HEq1.out, HEq2.out]))
            go_wp2
            go_ret
            exact ⟨by rw [HTt.out]; rfl, HBw.out _ hbw⟩
  all_goals
    have HR := Lib.hid hr
    clear hr
    go_enter Try.func10, Try.ntmps10
    go_upto_region 1 with fail
    generalize ((w.alloc _).alloc _) = W at HB HX HY ⊢
    obtain ⟨c0, c1, c2, c3, c4, c5, c6⟩ := HX.out.cells
    obtain ⟨d0, d1, d2, d3, d4, d5, d6⟩ := HY.out.cells
  rotate_left 1
  · rcases h0 with h0 | ⟨rfl, h0⟩
    · have h9 : True → (r == r') = false := fun _ => by simp [h0]
      clear h0
      go_wp2
      go_ret
      exact ⟨by rw [HR.out]; rfl, HB.out⟩
    · have h9 : True → (mm == mm') = false := fun _ => by simp [h0]
      clear h0
      go_wp2
      go_ret
      exact ⟨by rw [HR.out]; rfl, HB.out⟩
  · cases has <;> cases has' <;> first | exact absurd rfl h0 | (clear h0; go_wp2; go_ret; exact ⟨by rw [HR.out]; rfl, HB.out⟩)
  all_goals
    go_wp2
    go_ret
    exact ⟨by rw [HR.out]; rfl, HB.out⟩
end Go.Proofs.Ytcofmfjhgbihkaa.crush
