/- The document's Same. -/
import Derived.Test.YtoeklnmmnmmjeaaGreatRows
import Derived.Test.YtoeklnmmnmmjeaaGreatMMb
namespace Go.Proofs.YtoeklnmmnmmjeaaGreat.crush
open Go.RowKit
open Go.Proofs.YtoeklnmmnmmjeaaGreat.kit Go.Proofs.YtoeklnmmnmmjeaaGreat.own
set_option linter.unusedVariables false
set_option linter.unusedSimpArgs false

theorem get_ne {α : Type} {xs ys : List α} {k : Nat} (h1 : k < xs.length) (h2 : k < ys.length) {x y : α} (hx : xs[k] = x) (hy : ys[k] = y) (hne : ¬ x = y) : ¬ xs = ys := by
  rintro rfl
  exact hne (hx.symm.trans hy)
theorem mapR_sl {W : World} {em : Int} {vh vo vp vb : Value} {m : MapV} (h : MapR W (.agg #[.int .i64 em, vh, vo, vp, vb]) m) : Sl ic 1 W vh m.hosts ∧ Sl oc 4 W vo m.osds ∧ Sl pc 4 W vp m.pools ∧ Sl bc 2 W vb m.bans := mapR_rows h
set_option maxHeartbeats 32000000 in
set_option maxRecDepth 100000 in
theorem rSame_any (va vb : Value) (m n : MapV) (w : World) (ha : MapR w va m) (hb : MapR w vb n) : Calls Tryz.prog 17 #[va, vb] w fun e w' => e = .returned (.bool (sameE m n)) ∧ Below w.heap.size w w' := by
  have HRA := Lib.hid ha; have HRB := Lib.hid hb
  obtain ⟨a1, a2, a3, a4, rfl, r1, r2, r3, r4⟩ := ha
  obtain ⟨b1, b2, b3, b4, rfl, s1, s2, s3, s4⟩ := hb
  obtain ⟨x1, y1, rfl⟩ := r1.slice; obtain ⟨x2, y2, rfl⟩ := r2.slice; obtain ⟨x3, y3, rfl⟩ := r3.slice; obtain ⟨x4, y4, rfl⟩ := r4.slice
  obtain ⟨p1, q1, rfl⟩ := s1.slice; obtain ⟨p2, q2, rfl⟩ := s2.slice; obtain ⟨p3, q3, rfl⟩ := s3.slice; obtain ⟨p4, q4, rfl⟩ := s4.slice
  have hl1 := r1.1; have hl2 := r2.1; have hl3 := r3.1; have hl4 := r4.1
  obtain ⟨R, hR⟩ : ∃ R, sameE m n = R := ⟨_, rfl⟩
  rw [hR]
  have HF : Hid (¬ (m.epoch = n.epoch ∧ m.hosts = n.hosts ∧ m.osds = n.osds ∧ m.pools = n.pools ∧ m.bans = n.bans) → R = false) := Lib.hid (fun h => by
    rw [← hR]
    cases hh : sameE m n with
    | false => rfl
    | true =>
      unfold sameE at hh
      simp only [Bool.and_eq_true, decide_eq_true_eq] at hh
      exact absurd hh h)
  have HT : Hid (m.epoch = n.epoch ∧ m.hosts = n.hosts ∧ m.osds = n.osds ∧ m.pools = n.pools ∧ m.bans = n.bans → R = true) := Lib.hid (fun h => by
    rw [← hR]
    unfold sameE
    simp [h])
  obtain ⟨k1, e1⟩ : ∃ k, m.hosts.length = k := ⟨_, rfl⟩
  obtain ⟨k2, e2⟩ : ∃ k, m.osds.length = k := ⟨_, rfl⟩
  obtain ⟨k3, e3⟩ : ∃ k, m.pools.length = k := ⟨_, rfl⟩
  obtain ⟨k4, e4⟩ : ∃ k, m.bans.length = k := ⟨_, rfl⟩
  obtain ⟨l1, f1⟩ : ∃ k, n.hosts.length = k := ⟨_, rfl⟩
  obtain ⟨l2, f2⟩ : ∃ k, n.osds.length = k := ⟨_, rfl⟩
  obtain ⟨l3, f3⟩ : ∃ k, n.pools.length = k := ⟨_, rfl⟩
  obtain ⟨l4, f4⟩ : ∃ k, n.bans.length = k := ⟨_, rfl⟩
  have HK1 := Lib.hid e1; have HK2 := Lib.hid e2; have HK3 := Lib.hid e3; have HK4 := Lib.hid e4
  have HL1 := Lib.hid f1; have HL2 := Lib.hid f2; have HL3 := Lib.hid f3; have HL4 := Lib.hid f4
  rw [e1] at hl1; rw [e2] at hl2; rw [e3] at hl3; rw [e4] at hl4
  rw [e1, e2, e3, e4] at HRA ⊢
  rw [f1, f2, f3, f4] at HRB ⊢
  obtain ⟨em, hem⟩ : ∃ e, m.epoch = e := ⟨_, rfl⟩
  obtain ⟨en, hen⟩ : ∃ e, n.epoch = e := ⟨_, rfl⟩
  have HEm := Lib.hid hem; have HEn := Lib.hid hen
  rw [hem] at HRA ⊢
  rw [hen] at HRB ⊢
  clear r1 r2 r3 r4 s1 s2 s3 s4 hR e1 e2 e3 e4 f1 f2 f3 f4 hem hen
  obtain ⟨W, hW⟩ : ∃ W, ((w.alloc (.cells #[.int .i64 em, .slice x1 k1 y1, .slice x2 k2 y2, .slice x3 k3 y3, .slice x4 k4 y4] 27)).alloc (.cells #[.int .i64 en, .slice p1 l1 q1, .slice p2 l2 q2, .slice p3 l3 q3, .slice p4 l4 q4] 27)) = W := ⟨_, rfl⟩
  have hB : Below w.heap.size w W := by rw [← hW]; exact (below_new w _).alloc (by simp) _
  have hX : MBox W w.heap.size 27 em (.slice x1 k1 y1) (.slice x2 k2 y2) (.slice x3 k3 y3) (.slice x4 k4 y4) := by
    unfold MBox; rw [← hW]; simp only [alloc_heap, Array.getElem?_push, Array.size_push]
    repeat (first | rw [if_pos trivial] | rw [if_pos (by omega)] | rw [if_neg (by omega)])
  have hY : MBox W (w.heap.size + 1) 27 en (.slice p1 l1 q1) (.slice p2 l2 q2) (.slice p3 l3 q3) (.slice p4 l4 q4) := by
    unfold MBox; rw [← hW]; simp only [alloc_heap, Array.getElem?_push, Array.size_push]
    repeat (first | rw [if_pos trivial] | rw [if_pos (by omega)] | rw [if_neg (by omega)])
  have HB := Lib.hid hB; have HX := Lib.hid hX; have HY := Lib.hid hY
  have mixed : Tryz.prog.follows .mixedOrders = true := by kernel_rfl
  clear hB hX hY
  go_enter Tryz.func17, Tryz.ntmps17
  go_upto_region 1 with fail
  clear hW
  obtain ⟨M, hM⟩ : ∃ M, w.heap.size = M := ⟨_, rfl⟩
  have HBw := Lib.hid (fun u (hu : Below W.heap.size W u) => HB.out.trans (hu.mono HB.out.size))
  rw [hM] at HX HY ⊢
  clear hM
  obtain ⟨c0, c1, c2, c3, c4⟩ := HX.out.cells
  obtain ⟨d0, d1, d2, d3, d4⟩ := HY.out.cells
  have hcs : ((True → (em != en) = true) ∧ R = false) ∨ ((True → (em != en) = false) ∧ em = en ∧ (True → ((k1 : Int) != (l1 : Int)) = true) ∧ R = false) ∨ ((True → (em != en) = false) ∧ em = en ∧ k1 = l1 ∧ (True → ((k2 : Int) != (l2 : Int)) = true) ∧ R = false) ∨ ((True → (em != en) = false) ∧ em = en ∧ k1 = l1 ∧ k2 = l2 ∧ (True → ((k3 : Int) != (l3 : Int)) = true) ∧ R = false) ∨ ((True → (em != en) = false) ∧ em = en ∧ k1 = l1 ∧ k2 = l2 ∧ k3 = l3 ∧ (True → ((k4 : Int) != (l4 : Int)) = true) ∧ R = false) ∨ ((True → (em != en) = false) ∧ em = en ∧ k1 = l1 ∧ k2 = l2 ∧ k3 = l3 ∧ k4 = l4 ∧ True) := by
    by_cases h0 : em = en
    · have g0 : True → (em != en) = false := fun _ => by simp [h0]
      by_cases h1 : k1 = l1
      · by_cases h2 : k2 = l2
        · by_cases h3 : k3 = l3
          · by_cases h4 : k4 = l4
            · exact .inr (.inr (.inr (.inr (.inr ⟨g0, h0, h1, h2, h3, h4, trivial⟩))))
            · exact .inr (.inr (.inr (.inr (.inl ⟨g0, h0, h1, h2, h3, fun _ => by simp; omega, HF.out (fun h => h4 (by rw [← HK4.out, ← HL4.out, h.2.2.2.2]))⟩))))
          · exact .inr (.inr (.inr (.inl ⟨g0, h0, h1, h2, fun _ => by simp; omega, HF.out (fun h => h3 (by rw [← HK3.out, ← HL3.out, h.2.2.2.1]))⟩)))
        · exact .inr (.inr (.inl ⟨g0, h0, h1, fun _ => by simp; omega, HF.out (fun h => h2 (by rw [← HK2.out, ← HL2.out, h.2.2.1]))⟩))
      · exact .inr (.inl ⟨g0, h0, fun _ => by simp; omega, HF.out (fun h => h1 (by rw [← HK1.out, ← HL1.out, h.2.1]))⟩)
    · exact .inl ⟨fun _ => by simp [h0], HF.out (fun h => h0 (by rw [← HEm.out, ← HEn.out, h.1]))⟩
  rcases hcs with ⟨h0, hr⟩ | ⟨h0, hee, h1, hr⟩ | ⟨h0, hee, rfl, h2, hr⟩ | ⟨h0, hee, rfl, rfl, h3, hr⟩ | ⟨h0, hee, rfl, rfl, rfl, h4, hr⟩ | ⟨h0, hee, rfl, rfl, rfl, rfl, -⟩
  rotate_left 5
  · have HEe := Lib.hid hee
    clear hee
    go_wp2
    clear c0 c1 c2 c3 c4 d0 d1 d2 d3 d4
    go_loopw [5] (fun vi wr => ∃ k : Nat, k ≤ k1 ∧ vi = .int .i64 k ∧ Hid (∀ j (hx : j < m.hosts.length) (hy : j < n.hosts.length), j < k → m.hosts[j] = n.hosts[j]) ∧ Below W.heap.size W wr) (fun i _ => k1 - (intOf i).toNat)
    case atStart => exact ⟨0, by omega, rfl, Lib.hid (fun j _ _ h => absurd h (Nat.not_lt_zero _)), Below.refl _ _⟩
    case round =>
      obtain ⟨k, hk, rfl, HN1, hbw⟩ := hrel
      have HBr := Lib.hid hbw
      obtain ⟨c0, c1, c2, c3, c4⟩ := (HX.out.keep hbw).cells
      obtain ⟨d0, d1, d2, d3, d4⟩ := (HY.out.keep hbw).cells
      by_cases hlt : k < k1
      · have hlt' : (k : Int) < k1 := by omega
        have hk0 : (0 : Int) ≤ k := by omega
        have h1 : k < m.hosts.length := by rw [HK1.out]; exact hlt
        have h2 : k < n.hosts.length := by rw [HL1.out]; exact hlt
        obtain ⟨b1, o1, z1, hl1, hr1⟩ := sl_elem (mapR_sl (HRA.out.keep (HBw.out _ hbw))).1 k h1
        obtain ⟨b2, o2, z2, hl2, hr2⟩ := sl_elem (mapR_sl (HRB.out.keep (HBw.out _ hbw))).1 k h2
        cases z1; cases z2
        clear hbw hl1 hl2
        obtain ⟨x, hx⟩ : ∃ x, m.hosts[k] = x := ⟨_, rfl⟩
        obtain ⟨y, hy⟩ : ∃ y, n.hosts[k] = y := ⟨_, rfl⟩
        have HXx := Lib.hid hx; have HYy := Lib.hid hy
        rw [hx] at hr1
        rw [hy] at hr2
        clear hx hy
        obtain ⟨q, hq⟩ : ∃ q, decide (x = y) = q := ⟨_, rfl⟩
        have HQq := Lib.hid hq
        have e1 := icell_at hr1
        have e2 := icell_at hr2
        rw [Nat.mul_one] at e1 e2
        have hQ : True → (x != y) = !q := fun _ => by rw [← hq]; by_cases h : x = y <;> simp [h]
        clear hr1 hr2 hq
        cases q with
        | false =>
          have HFf : Hid (R = false) := Lib.hid (HF.out (fun h => get_ne h1 h2 HXx.out HYy.out (of_decide_eq_false HQq.out) h.2.1))
          go_upto_region 6 with fail
          go_quiet (fail)
          have HB2 := Lib.hid (HBr.out.drewN' nq)
          clear e1 e2 hQ c0 c1 c2 c3 c4 d0 d1 d2 d3 d4
          go_wp2
          go_ret
          exact ⟨by rw [HFf.out]; rfl, HBw.out _ (HB2.out)⟩
        | true =>
          have HN2 : Hid (∀ j (hx : j < m.hosts.length) (hy : j < n.hosts.length), j < k + 1 → m.hosts[j] = n.hosts[j]) := Lib.hid (fun j hx hy h => by
            rcases Nat.lt_or_ge j k with h3 | h3
            · exact HN1.out j hx hy h3
            · obtain rfl : j = k := by omega
              exact HXx.out.trans ((of_decide_eq_true HQq.out).trans HYy.out.symm))
          go_upto_region 6 with fail
          go_quiet (fail)
          have HB2 := Lib.hid (HBr.out.drewN' nq)
          clear e1 e2 hQ c0 c1 c2 c3 c4 d0 d1 d2 d3 d4
          go_wp2
          go_roundw
          case rel => exact ⟨k + 1, by omega, by go_num, HN2, HB2.out⟩
          case measure => simp [intOf]; omega
      · have hlt' : ¬ ((k : Int) < k1) := by omega
        have HEq1 : Hid (m.hosts = n.hosts) := Lib.hid (all_eq HK1.out HL1.out (fun j hx hy h => HN1.out j hx hy (by omega)))
        have HC1 : Hid (Below W.heap.size W wr) := Lib.hid (hbw)
        have HX1 := Lib.hid (HX.out.keep hbw); have HY1 := Lib.hid (HY.out.keep hbw)
        have HX := HX1; have HY := HY1
        clear hbw HBr HX1 HY1 HN1
        obtain ⟨W1, rfl⟩ : ∃ V, V = wr := ⟨_, rfl⟩
        have HBw0 := HBw
        have HBw := Lib.hid (fun u (hu : Below W1.heap.size W1 u) => HBw0.out u (HC1.out.trans (hu.mono HC1.out.size)))
        go_wp2
        clear c0 c1 c2 c3 c4 d0 d1 d2 d3 d4
        go_loopw [6] (fun vi wr => ∃ k : Nat, k ≤ k2 ∧ vi = .int .i64 k ∧ Hid (∀ j (hx : j < m.osds.length) (hy : j < n.osds.length), j < k → m.osds[j] = n.osds[j]) ∧ Below W1.heap.size W1 wr) (fun i _ => k2 - (intOf i).toNat)
        case atStart => exact ⟨0, by omega, rfl, Lib.hid (fun j _ _ h => absurd h (Nat.not_lt_zero _)), Below.refl _ _⟩
        case round =>
          obtain ⟨k, hk, rfl, HN2, hbw⟩ := hrel
          have HBr := Lib.hid hbw
          obtain ⟨c0, c1, c2, c3, c4⟩ := (HX.out.keep hbw).cells
          obtain ⟨d0, d1, d2, d3, d4⟩ := (HY.out.keep hbw).cells
          by_cases hlt : k < k2
          · have hlt' : (k : Int) < k2 := by omega
            have hk0 : (0 : Int) ≤ k := by omega
            have h1 : k < m.osds.length := by rw [HK2.out]; exact hlt
            have h2 : k < n.osds.length := by rw [HL2.out]; exact hlt
            obtain ⟨b1, o1, z1, hl1, hr1⟩ := sl_elem (mapR_sl (HRA.out.keep (HBw.out _ hbw))).2.1 k h1
            obtain ⟨b2, o2, z2, hl2, hr2⟩ := sl_elem (mapR_sl (HRB.out.keep (HBw.out _ hbw))).2.1 k h2
            cases z1; cases z2
            clear hbw hl1 hl2
            obtain ⟨x, hx⟩ : ∃ x, m.osds[k] = x := ⟨_, rfl⟩
            obtain ⟨y, hy⟩ : ∃ y, n.osds[k] = y := ⟨_, rfl⟩
            have HXx := Lib.hid hx; have HYy := Lib.hid hy
            rw [hx] at hr1
            rw [hy] at hr2
            clear hx hy
            obtain ⟨q, hq⟩ : ∃ q, decide (x = y) = q := ⟨_, rfl⟩
            have HQq := Lib.hid hq
            have hQ := fun u => neq_osd x y u
            rw [hq] at hQ
            obtain ⟨fa1, fb1, fc1, fd1⟩ := x
            obtain ⟨fa2, fb2, fc2, fd2⟩ := y
            simp only [oc] at hQ
            have g10 : wr.cell? ⟨b1, o1 + k * 4, none⟩ = some (.int .i64 fa1) := hr1 0 _ rfl
            have g11 : wr.cell? ⟨b1, o1 + k * 4 + 1, none⟩ = some (.bool fb1) := hr1 1 _ rfl
            have g12 : wr.cell? ⟨b1, o1 + k * 4 + 2, none⟩ = some (.int .i64 fc1) := hr1 2 _ rfl
            have g13 : wr.cell? ⟨b1, o1 + k * 4 + 3, none⟩ = some (.int .i64 fd1) := hr1 3 _ rfl
            have g20 : wr.cell? ⟨b2, o2 + k * 4, none⟩ = some (.int .i64 fa2) := hr2 0 _ rfl
            have g21 : wr.cell? ⟨b2, o2 + k * 4 + 1, none⟩ = some (.bool fb2) := hr2 1 _ rfl
            have g22 : wr.cell? ⟨b2, o2 + k * 4 + 2, none⟩ = some (.int .i64 fc2) := hr2 2 _ rfl
            have g23 : wr.cell? ⟨b2, o2 + k * 4 + 3, none⟩ = some (.int .i64 fd2) := hr2 3 _ rfl
            clear hr1 hr2 hq
            cases q with
            | false =>
              have HFf : Hid (R = false) := Lib.hid (HF.out (fun h => get_ne h1 h2 HXx.out HYy.out (of_decide_eq_false HQq.out) h.2.2.1))
              go_upto_region 11 with fail
              go_quiet (fail)
              have HB2 := Lib.hid (HBr.out.drewN' nq)
              clear g10 g11 g12 g13 g20 g21 g22 g23 hQ c0 c1 c2 c3 c4 d0 d1 d2 d3 d4
              go_wp2
              go_ret
              exact ⟨by rw [HFf.out]; rfl, HBw.out _ HB2.out⟩
            | true =>
              have HN2 : Hid (∀ j (hx : j < m.osds.length) (hy : j < n.osds.length), j < k + 1 → m.osds[j] = n.osds[j]) := Lib.hid (fun j hx hy h => by
                rcases Nat.lt_or_ge j k with h3 | h3
                · exact HN2.out j hx hy h3
                · obtain rfl : j = k := by omega
                  exact HXx.out.trans ((of_decide_eq_true HQq.out).trans HYy.out.symm))
              go_upto_region 11 with fail
              go_quiet (fail)
              have HB2 := Lib.hid (HBr.out.drewN' nq)
              clear g10 g11 g12 g13 g20 g21 g22 g23 hQ c0 c1 c2 c3 c4 d0 d1 d2 d3 d4
              go_wp2
              go_roundw
              case rel => exact ⟨k + 1, by omega, by go_num, HN2, HB2.out⟩
              case measure => simp [intOf]; omega
          · have hlt' : ¬ ((k : Int) < k2) := by omega
            have HEq2 : Hid (m.osds = n.osds) := Lib.hid (all_eq HK2.out HL2.out (fun j hx hy h => HN2.out j hx hy (by omega)))
            have hbw2 := hbw
            have HC2 : Hid (Below W.heap.size W wr) := Lib.hid (HC1.out.trans (hbw.mono HC1.out.size))
            have HX2 := Lib.hid (HX.out.keep hbw); have HY2 := Lib.hid (HY.out.keep hbw)
            have HX := HX2; have HY := HY2
            clear hbw HBr HX2 HY2 HN2
            obtain ⟨W2, rfl⟩ : ∃ V, V = wr := ⟨_, rfl⟩
            have HBw0 := HBw
            have HBw := Lib.hid (fun u (hu : Below W2.heap.size W2 u) => HBw0.out u (hbw2.trans (hu.mono hbw2.size)))
            go_wp2
            clear c0 c1 c2 c3 c4 d0 d1 d2 d3 d4
            go_loopw [7] (fun vi wr => ∃ k : Nat, k ≤ k3 ∧ vi = .int .i64 k ∧ Hid (∀ j (hx : j < m.pools.length) (hy : j < n.pools.length), j < k → m.pools[j] = n.pools[j]) ∧ Below W2.heap.size W2 wr) (fun i _ => k3 - (intOf i).toNat)
            case atStart => exact ⟨0, by omega, rfl, Lib.hid (fun j _ _ h => absurd h (Nat.not_lt_zero _)), Below.refl _ _⟩
            case round =>
              obtain ⟨k, hk, rfl, HN3, hbw⟩ := hrel
              have HBr := Lib.hid hbw
              obtain ⟨c0, c1, c2, c3, c4⟩ := (HX.out.keep hbw).cells
              obtain ⟨d0, d1, d2, d3, d4⟩ := (HY.out.keep hbw).cells
              by_cases hlt : k < k3
              · have hlt' : (k : Int) < k3 := by omega
                have hk0 : (0 : Int) ≤ k := by omega
                have h1 : k < m.pools.length := by rw [HK3.out]; exact hlt
                have h2 : k < n.pools.length := by rw [HL3.out]; exact hlt
                obtain ⟨b1, o1, z1, hl1, hr1⟩ := sl_elem (mapR_sl (HRA.out.keep (HBw.out _ hbw))).2.2.1 k h1
                obtain ⟨b2, o2, z2, hl2, hr2⟩ := sl_elem (mapR_sl (HRB.out.keep (HBw.out _ hbw))).2.2.1 k h2
                cases z1; cases z2
                clear hbw hl1 hl2
                obtain ⟨x, hx⟩ : ∃ x, m.pools[k] = x := ⟨_, rfl⟩
                obtain ⟨y, hy⟩ : ∃ y, n.pools[k] = y := ⟨_, rfl⟩
                have HXx := Lib.hid hx; have HYy := Lib.hid hy
                rw [hx] at hr1
                rw [hy] at hr2
                clear hx hy
                obtain ⟨q, hq⟩ : ∃ q, decide (x = y) = q := ⟨_, rfl⟩
                have HQq := Lib.hid hq
                have hQ := fun u => neq_pool2 x y u
                rw [hq] at hQ
                obtain ⟨fa1, fb1, fc1, fd1⟩ := x
                obtain ⟨fa2, fb2, fc2, fd2⟩ := y
                simp only [pc] at hQ
                have g10 : wr.cell? ⟨b1, o1 + k * 4, none⟩ = some (.int .i64 fa1) := hr1 0 _ rfl
                have g11 : wr.cell? ⟨b1, o1 + k * 4 + 1, none⟩ = some (.int .i64 fb1) := hr1 1 _ rfl
                have g12 : wr.cell? ⟨b1, o1 + k * 4 + 2, none⟩ = some (.int .i64 fc1) := hr1 2 _ rfl
                have g13 : wr.cell? ⟨b1, o1 + k * 4 + 3, none⟩ = some (.int .i64 fd1) := hr1 3 _ rfl
                have g20 : wr.cell? ⟨b2, o2 + k * 4, none⟩ = some (.int .i64 fa2) := hr2 0 _ rfl
                have g21 : wr.cell? ⟨b2, o2 + k * 4 + 1, none⟩ = some (.int .i64 fb2) := hr2 1 _ rfl
                have g22 : wr.cell? ⟨b2, o2 + k * 4 + 2, none⟩ = some (.int .i64 fc2) := hr2 2 _ rfl
                have g23 : wr.cell? ⟨b2, o2 + k * 4 + 3, none⟩ = some (.int .i64 fd2) := hr2 3 _ rfl
                clear hr1 hr2 hq
                cases q with
                | false =>
                  have HFf : Hid (R = false) := Lib.hid (HF.out (fun h => get_ne h1 h2 HXx.out HYy.out (of_decide_eq_false HQq.out) h.2.2.2.1))
                  go_upto_region 16 with fail
                  go_quiet (fail)
                  have HB2 := Lib.hid (HBr.out.drewN' nq)
                  clear g10 g11 g12 g13 g20 g21 g22 g23 hQ c0 c1 c2 c3 c4 d0 d1 d2 d3 d4
                  go_wp2
                  go_ret
                  exact ⟨by rw [HFf.out]; rfl, HBw.out _ HB2.out⟩
                | true =>
                  have HN2 : Hid (∀ j (hx : j < m.pools.length) (hy : j < n.pools.length), j < k + 1 → m.pools[j] = n.pools[j]) := Lib.hid (fun j hx hy h => by
                    rcases Nat.lt_or_ge j k with h3 | h3
                    · exact HN3.out j hx hy h3
                    · obtain rfl : j = k := by omega
                      exact HXx.out.trans ((of_decide_eq_true HQq.out).trans HYy.out.symm))
                  go_upto_region 16 with fail
                  go_quiet (fail)
                  have HB2 := Lib.hid (HBr.out.drewN' nq)
                  clear g10 g11 g12 g13 g20 g21 g22 g23 hQ c0 c1 c2 c3 c4 d0 d1 d2 d3 d4
                  go_wp2
                  go_roundw
                  case rel => exact ⟨k + 1, by omega, by go_num, HN2, HB2.out⟩
                  case measure => simp [intOf]; omega
              · have hlt' : ¬ ((k : Int) < k3) := by omega
                have HEq3 : Hid (m.pools = n.pools) := Lib.hid (all_eq HK3.out HL3.out (fun j hx hy h => HN3.out j hx hy (by omega)))
                have hbw3 := hbw
                have HC3 : Hid (Below W.heap.size W wr) := Lib.hid (HC2.out.trans (hbw.mono HC2.out.size))
                have HX3 := Lib.hid (HX.out.keep hbw); have HY3 := Lib.hid (HY.out.keep hbw)
                have HX := HX3; have HY := HY3
                clear hbw HBr HX3 HY3 HN3
                obtain ⟨W3, rfl⟩ : ∃ V, V = wr := ⟨_, rfl⟩
                have HBw0 := HBw
                have HBw := Lib.hid (fun u (hu : Below W3.heap.size W3 u) => HBw0.out u (hbw3.trans (hu.mono hbw3.size)))
                go_wp2
                clear c0 c1 c2 c3 c4 d0 d1 d2 d3 d4
                go_loopw [8] (fun vi wr => ∃ k : Nat, k ≤ k4 ∧ vi = .int .i64 k ∧ Hid (∀ j (hx : j < m.bans.length) (hy : j < n.bans.length), j < k → m.bans[j] = n.bans[j]) ∧ Below W3.heap.size W3 wr) (fun i _ => k4 - (intOf i).toNat)
                case atStart => exact ⟨0, by omega, rfl, Lib.hid (fun j _ _ h => absurd h (Nat.not_lt_zero _)), Below.refl _ _⟩
                case round =>
                  obtain ⟨k, hk, rfl, HN4, hbw⟩ := hrel
                  have HBr := Lib.hid hbw
                  obtain ⟨c0, c1, c2, c3, c4⟩ := (HX.out.keep hbw).cells
                  obtain ⟨d0, d1, d2, d3, d4⟩ := (HY.out.keep hbw).cells
                  by_cases hlt : k < k4
                  · have hlt' : (k : Int) < k4 := by omega
                    have hk0 : (0 : Int) ≤ k := by omega
                    have h1 : k < m.bans.length := by rw [HK4.out]; exact hlt
                    have h2 : k < n.bans.length := by rw [HL4.out]; exact hlt
                    obtain ⟨b1, o1, z1, hl1, hr1⟩ := sl_elem (mapR_sl (HRA.out.keep (HBw.out _ hbw))).2.2.2 k h1
                    obtain ⟨b2, o2, z2, hl2, hr2⟩ := sl_elem (mapR_sl (HRB.out.keep (HBw.out _ hbw))).2.2.2 k h2
                    cases z1; cases z2
                    clear hbw hl1 hl2
                    obtain ⟨x, hx⟩ : ∃ x, m.bans[k] = x := ⟨_, rfl⟩
                    obtain ⟨y, hy⟩ : ∃ y, n.bans[k] = y := ⟨_, rfl⟩
                    have HXx := Lib.hid hx; have HYy := Lib.hid hy
                    rw [hx] at hr1
                    rw [hy] at hr2
                    clear hx hy
                    obtain ⟨q, hq⟩ : ∃ q, decide (x = y) = q := ⟨_, rfl⟩
                    have HQq := Lib.hid hq
                    have hQ := fun u => neq_ban x y u
                    rw [hq] at hQ
                    obtain ⟨fa1, fb1⟩ := x
                    obtain ⟨fa2, fb2⟩ := y
                    simp only [bc] at hQ
                    have g10 : wr.cell? ⟨b1, o1 + k * 2, none⟩ = some (.int .i64 fa1) := hr1 0 _ rfl
                    have g11 : wr.cell? ⟨b1, o1 + k * 2 + 1, none⟩ = some (.int .i64 fb1) := hr1 1 _ rfl
                    have g20 : wr.cell? ⟨b2, o2 + k * 2, none⟩ = some (.int .i64 fa2) := hr2 0 _ rfl
                    have g21 : wr.cell? ⟨b2, o2 + k * 2 + 1, none⟩ = some (.int .i64 fb2) := hr2 1 _ rfl
                    clear hr1 hr2 hq
                    cases q with
                    | false =>
                      have HFf : Hid (R = false) := Lib.hid (HF.out (fun h => get_ne h1 h2 HXx.out HYy.out (of_decide_eq_false HQq.out) h.2.2.2.2))
                      go_upto_region 21 with fail
                      go_quiet (fail)
                      have HB2 := Lib.hid (HBr.out.drewN' nq)
                      clear g10 g11 g20 g21 hQ c0 c1 c2 c3 c4 d0 d1 d2 d3 d4
                      go_wp2
                      go_ret
                      exact ⟨by rw [HFf.out]; rfl, HBw.out _ HB2.out⟩
                    | true =>
                      have HN2 : Hid (∀ j (hx : j < m.bans.length) (hy : j < n.bans.length), j < k + 1 → m.bans[j] = n.bans[j]) := Lib.hid (fun j hx hy h => by
                        rcases Nat.lt_or_ge j k with h3 | h3
                        · exact HN4.out j hx hy h3
                        · obtain rfl : j = k := by omega
                          exact HXx.out.trans ((of_decide_eq_true HQq.out).trans HYy.out.symm))
                      go_upto_region 21 with fail
                      go_quiet (fail)
                      have HB2 := Lib.hid (HBr.out.drewN' nq)
                      clear g10 g11 g20 g21 hQ c0 c1 c2 c3 c4 d0 d1 d2 d3 d4
                      go_wp2
                      go_roundw
                      case rel => exact ⟨k + 1, by omega, by go_num, HN2, HB2.out⟩
                      case measure => simp [intOf]; omega
                  · have hlt' : ¬ ((k : Int) < k4) := by omega
                    have HEq4 : Hid (m.bans = n.bans) := Lib.hid (all_eq HK4.out HL4.out (fun j hx hy h => HN4.out j hx hy (by omega)))
                    have HTt : Hid (R = true) := Lib.hid (HT.out ⟨by rw [HEm.out, HEn.out]; exact HEe.out, HEq1.out, HEq2.out, HEq3.out, HEq4.out⟩)
                    go_wp2
                    go_ret
                    exact ⟨by rw [HTt.out]; rfl, HBw.out _ hbw⟩
  all_goals
    have HR := Lib.hid hr
    clear hr
    try clear hee
    go_wp2
    go_ret
    exact ⟨by rw [HR.out]; rfl, HB.out⟩
end Go.Proofs.YtoeklnmmnmmjeaaGreat.crush
