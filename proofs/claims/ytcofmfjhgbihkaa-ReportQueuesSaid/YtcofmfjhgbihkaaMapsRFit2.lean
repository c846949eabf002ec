/- The document's Fit. -/
import Derived.Test.YtcofmfjhgbihkaaRows
import Derived.Test.YtcofmfjhgbihkaaMapsRFit
namespace Go.Proofs.Ytcofmfjhgbihkaa.crush
open Go.RowKit
open Go.Proofs.Ytcofmfjhgbihkaa.kit Go.Proofs.Ytcofmfjhgbihkaa.own
set_option linter.unusedVariables false
set_option linter.unusedSimpArgs false

set_option maxHeartbeats 32000000 in
set_option maxRecDepth 100000 in
theorem rFit_any (va : Value) (m : MapV) (w : World) (ha : MapR w va m) : Calls Try.prog 40 #[va] w fun e w' => e = .returned (.bool (okMap m)) ∧ Below w.heap.size w w' := by
  have HRA := Lib.hid ha
  obtain ⟨a1, a2, a3, a4, rfl, r1, r2, r3, r4⟩ := ha
  have HHo := Lib.hid (fun u (hu : Below w.heap.size w u) => rHosts_any a1 m.hosts u (r1.keep hu))
  obtain ⟨x1, y1, rfl⟩ := r1.slice; obtain ⟨x2, y2, rfl⟩ := r2.slice; obtain ⟨x3, y3, rfl⟩ := r3.slice; obtain ⟨x4, y4, rfl⟩ := r4.slice
  have hl2 := r2.1; have hl3 := r3.1; have hl4 := r4.1
  obtain ⟨R, hR⟩ : ∃ R, okMap m = R := ⟨_, rfl⟩
  rw [hR]
  have hF : ¬ ((0 ≤ m.epoch ∧ m.epoch ≤ 4096) ∧ okHosts m.hosts = true ∧ (m.osds.length = m.hosts.length ∧ ∀ o ∈ m.osds, unOsd m.epoch o = false) ∧ (m.pools.length ≤ 2 ∧ ∀ p ∈ m.pools, okPool p = true) ∧ okBans m.bans = true) → R = false := fun h => by
    rw [← hR]
    cases hh : okMap m with
    | false => rfl
    | true =>
      have := (okMap_iff m).1 hh
      rw [osds_iff, pools_iff] at this
      exact absurd this h
  have hT : ((0 ≤ m.epoch ∧ m.epoch ≤ 4096) ∧ okHosts m.hosts = true ∧ (m.osds.length = m.hosts.length ∧ ∀ o ∈ m.osds, unOsd m.epoch o = false) ∧ (m.pools.length ≤ 2 ∧ ∀ p ∈ m.pools, okPool p = true) ∧ okBans m.bans = true) → R = true := fun h => by
    rw [← hR, okMap_iff, osds_iff, pools_iff]
    exact h
  have HF := Lib.hid hF; have HT := Lib.hid hT
  obtain ⟨th, hth⟩ : ∃ t, okHosts m.hosts = t := ⟨_, rfl⟩
  rw [hth] at HHo
  have HTh := Lib.hid hth
  obtain ⟨k1, e1⟩ : ∃ k, m.hosts.length = k := ⟨_, rfl⟩
  obtain ⟨k2, e2⟩ : ∃ k, m.osds.length = k := ⟨_, rfl⟩
  obtain ⟨k3, e3⟩ : ∃ k, m.pools.length = k := ⟨_, rfl⟩
  obtain ⟨k4, e4⟩ : ∃ k, m.bans.length = k := ⟨_, rfl⟩
  have HK1 := Lib.hid e1; have HK2 := Lib.hid e2; have HK3 := Lib.hid e3; have HK4 := Lib.hid e4
  rw [e2] at hl2; rw [e3] at hl3; rw [e4] at hl4
  rw [e1] at HHo
  rw [e1, e2, e3, e4] at HRA ⊢
  obtain ⟨em, hem⟩ : ∃ e, m.epoch = e := ⟨_, rfl⟩
  have HEm := Lib.hid hem
  rw [hem] at HRA ⊢
  obtain ⟨te, hte⟩ : ∃ t, inR em 0 4096 = t := ⟨_, rfl⟩
  have HTe := Lib.hid hte
  have HWe := Lib.hid (fun u => rwithin_any em 0 4096 u)
  rw [hte] at HWe
  have HB := Lib.hid (below_new w (.cells #[.int .i64 em, .slice x1 k1 y1, .slice x2 k2 y2, .slice x3 k3 y3, .slice x4 k4 y4] 83))
  have HX := Lib.hid (mbox_new w 83 em (.slice x1 k1 y1) (.slice x2 k2 y2) (.slice x3 k3 y3) (.slice x4 k4 y4))
  have mixed : Try.prog.follows .mixedOrders = true := by kernel_rfl
  clear r1 r2 r3 r4 hR e1 e2 e3 e4 hem hth hte hF hT
  have hcs : (th = false ∧ R = false) ∨ (th = true ∧ (True → ((k2 : Int) != (k1 : Int)) = true) ∧ R = false) ∨ (th = true ∧ k2 = k1 ∧ 2 < k3 ∧ R = false) ∨ (th = true ∧ k2 = k1 ∧ ¬ 2 < k3 ∧ 64 < k4 ∧ R = false) ∨ (th = true ∧ k2 = k1 ∧ ¬ 2 < k3 ∧ ¬ 64 < k4 ∧ te = false ∧ R = false) ∨ (th = true ∧ k2 = k1 ∧ ¬ 2 < k3 ∧ ¬ 64 < k4 ∧ te = true) := by
    cases th with
    | false => exact .inl ⟨rfl, HF.out (fun h => by have := h.2.1; rw [HTh.out] at this; cases this)⟩
    | true =>
      by_cases h1 : k2 = k1
      · by_cases h2 : 2 < k3
        · exact .inr (.inr (.inl ⟨rfl, h1, h2, HF.out (fun h => by have := h.2.2.2.1.1; rw [HK3.out] at this; omega)⟩))
        · by_cases h3 : 64 < k4
          · exact .inr (.inr (.inr (.inl ⟨rfl, h1, h2, h3, HF.out (fun h => by have := ((okBans_iff _).1 h.2.2.2.2).2.2; rw [HK4.out] at this; omega)⟩)))
          · cases te with
            | false => exact .inr (.inr (.inr (.inr (.inl ⟨rfl, h1, h2, h3, rfl, HF.out (fun h => by
                have h5 := HTe.out
                have h6 := h.1
                rw [HEm.out] at h6
                unfold inR at h5
                simp only [Bool.and_eq_false_iff, decide_eq_false_iff_not] at h5
                omega)⟩))))
            | true => exact .inr (.inr (.inr (.inr (.inr ⟨rfl, h1, h2, h3, rfl⟩))))
      · exact .inr (.inl ⟨rfl, fun _ => by simp; omega, HF.out (fun h => h1 (by rw [← HK2.out, ← HK1.out]; exact h.2.2.1.1))⟩)
  go_enter Try.func40, Try.ntmps40
  rcases hcs with ⟨rfl, hr⟩ | ⟨rfl, h1, hr⟩ | ⟨rfl, rfl, h2, hr⟩ | ⟨rfl, rfl, h2, h3, hr⟩ | ⟨rfl, rfl, h2, h3, rfl, hr⟩ | ⟨rfl, rfl, h2, h3, rfl⟩
  rotate_left 5
  · go_upto_region 1 with fail
    obtain ⟨W, hW⟩ : ∃ W, (w.alloc (.cells #[.int .i64 em, .slice x1 k2 y1, .slice x2 k2 y2, .slice x3 k3 y3, .slice x4 k4 y4] 83)) = W := ⟨_, rfl⟩
    rw [hW] at HB HX ⊢
    have hb' := HB.out
    have HBw := Lib.hid (fun u (hu : Below W.heap.size W u) => HB.out.trans (hu.mono HB.out.size))
    obtain ⟨M, hM⟩ : ∃ M, w.heap.size = M := ⟨_, rfl⟩
    rw [hM] at HX ⊢
    obtain ⟨c0, c1, c2, c3, c4⟩ := HX.out.cells
    clear hW hM hb'
    have HTk : Hid (m.osds.length = m.hosts.length) := Lib.hid (by rw [HK2.out, HK1.out])
    go_upto_region 3 with (first
      | (go_at_call 76; refine (HHo.out _ HB.out).mono ?_; rintro e w5 ⟨rfl, rfl⟩)
      | (go_at_call 77; refine (HWe.out _).mono ?_; rintro e w5 ⟨rfl, rfl⟩))
    obtain ⟨W, rfl⟩ : ∃ V, V = w5 := ⟨_, rfl⟩
    go_wp2
    clear c0 c1 c2 c3 c4
    go_loopw [3] (fun vi wr => ∃ k : Nat, k ≤ k2 ∧ vi = .int .i64 k ∧ Hid (∀ j (hx : j < m.osds.length), j < k → unOsd em m.osds[j] = false) ∧ Below W.heap.size W wr) (fun i _ => k2 - (intOf i).toNat)
    case atStart => exact ⟨0, by omega, rfl, Lib.hid (fun j _ h => absurd h (Nat.not_lt_zero _)), Below.refl _ _⟩
    case round =>
      obtain ⟨k, hk, rfl, HN1, hbw⟩ := hrel
      have HBr := Lib.hid hbw
      obtain ⟨c0, c1, c2, c3, c4⟩ := (HX.out.keep hbw).cells
      by_cases hlt : k < k2
      · have hlt' : (k : Int) < k2 := by omega
        have hk0 : (0 : Int) ≤ k := by omega
        have hi : k < m.osds.length := by rw [HK2.out]; exact hlt
        obtain ⟨b1, o1, z1, hl1, hr1⟩ := sl_elem (mapR_rows (HRA.out.keep (HBw.out _ hbw))).2.1 k hi
        cases z1
        obtain ⟨x, hx⟩ : ∃ x, m.osds[k] = x := ⟨_, rfl⟩
        have HXx := Lib.hid hx
        have hc := osd_cases em x
        rw [hx] at hr1
        have HW1 := Lib.hid (fun u => rwithin_any x.boot 0 1073741824 u)
        have HW2 := Lib.hid (fun u => rwithin_any x.wt 0 1048576 u)
        have HW3 := Lib.hid (fun u => rwithin_any x.thru 0 em u)
        obtain ⟨t1, g1⟩ : ∃ t, inR x.boot 0 1073741824 = t := ⟨_, rfl⟩
        obtain ⟨t2, g2⟩ : ∃ t, inR x.wt 0 1048576 = t := ⟨_, rfl⟩
        obtain ⟨t3, g3⟩ : ∃ t, inR x.thru 0 em = t := ⟨_, rfl⟩
        obtain ⟨r, hr⟩ : ∃ r, unOsd em x = r := ⟨_, rfl⟩
        have HR := Lib.hid hr
        rw [g1] at HW1 hc; rw [g2] at HW2 hc; rw [g3] at HW3 hc
        rw [hr] at hc
        clear hx g1 g2 g3 hr
        obtain ⟨fa, fb, fc, fd⟩ := x
        simp only at HW1 HW2 HW3 hc
        have g0 : wr.cell? ⟨b1, o1 + k * 4, none⟩ = some (.int .i64 fa) := hr1 0 _ rfl
        have g1 : wr.cell? ⟨b1, o1 + k * 4 + 1, none⟩ = some (.bool fb) := hr1 1 _ rfl
        have g2 : wr.cell? ⟨b1, o1 + k * 4 + 2, none⟩ = some (.int .i64 fc) := hr1 2 _ rfl
        have g3 : wr.cell? ⟨b1, o1 + k * 4 + 3, none⟩ = some (.int .i64 fd) := hr1 3 _ rfl
        have hb6 := below_new wr (.cells #[.int .i64 fa, .bool fb, .int .i64 fc, .int .i64 fd] 132)
        have hx6 := alloc_at wr (.cells #[.int .i64 fa, .bool fb, .int .i64 fc, .int .i64 fd] 132)
        have HB6 := Lib.hid (hbw.trans (hb6.mono hbw.size)); have HX6 := Lib.hid hx6
        clear hr1 hl1 hb6 hx6
        go_upto_region 7 with fail
        generalize (wr.alloc (.cells #[.int .i64 fa, .bool fb, .int .i64 fc, .int .i64 fd] 132)) = W6 at HB6 HX6 ⊢
        generalize wr.heap.size = X6 at HX6 ⊢
        clear g0 g1 g2 g3 c0 c1 c2 c3 c4
        obtain ⟨c0, c1, c2, c3, c4⟩ := (HX.out.keep HB6.out).cells
        have s0 : W6.cell? ⟨X6, 0, none⟩ = some (.int .i64 fa) := by simp [World.cell?, HX6.out]
        have s1 : W6.cell? ⟨X6, 1, none⟩ = some (.bool fb) := by simp [World.cell?, HX6.out]
        have s2 : W6.cell? ⟨X6, 2, none⟩ = some (.int .i64 fc) := by simp [World.cell?, HX6.out]
        have s3 : W6.cell? ⟨X6, 3, none⟩ = some (.int .i64 fd) := by simp [World.cell?, HX6.out]
        have HBad : Hid (r = true → R = false) := Lib.hid (fun h => HF.out (fun h2 => by
          have h3 := h2.2.2.1.2 m.osds[k] (List.getElem_mem hi)
          rw [HEm.out, HXx.out, HR.out, h] at h3
          cases h3))
        have HGood : Hid (r = false → ∀ j (hx : j < m.osds.length), j < k + 1 → unOsd em m.osds[j] = false) := Lib.hid (fun h j hx h4 => by
          rcases Nat.lt_or_ge j k with h3 | h3
          · exact HN1.out j hx h3
          · obtain rfl : j = k := by omega
            rw [HXx.out, HR.out, h])
        have hc' : ((t1 = false ∨ (t1 = true ∧ fb = true ∧ (True → (fa == 0) = true)) ∨ (t1 = true ∧ fb = false ∧ t2 = false) ∨ (t1 = true ∧ fb = true ∧ (True → (fa == 0) = false) ∧ t2 = false) ∨ (t1 = true ∧ fb = false ∧ t2 = true ∧ t3 = false) ∨ (t1 = true ∧ fb = true ∧ (True → (fa == 0) = false) ∧ t2 = true ∧ t3 = false)) ∧ r = true) ∨ (((t1 = true ∧ fb = false ∧ t2 = true ∧ t3 = true) ∨ (t1 = true ∧ fb = true ∧ (True → (fa == 0) = false) ∧ t2 = true ∧ t3 = true)) ∧ r = false) := by
          rcases hc with ⟨h1, h2⟩ | ⟨h1, h2, h3, h4⟩ | ⟨h1, h2 | ⟨h2, h3⟩, h4, h5⟩ | ⟨h1, h2 | ⟨h2, h3⟩, h4, h5⟩
          · exact .inl ⟨.inl h1, h2⟩
          · exact .inl ⟨.inr (.inl ⟨h1, h2, h3⟩), h4⟩
          · exact .inl ⟨.inr (.inr (.inl ⟨h1, h2, h4⟩)), h5⟩
          · exact .inl ⟨.inr (.inr (.inr (.inl ⟨h1, h2, h3, h4⟩))), h5⟩
          · cases r with
            | true => exact .inl ⟨.inr (.inr (.inr (.inr (.inl ⟨h1, h2, h4, h5⟩)))), rfl⟩
            | false => exact .inr ⟨.inl ⟨h1, h2, h4, h5⟩, rfl⟩
          · cases r with
            | true => exact .inl ⟨.inr (.inr (.inr (.inr (.inr ⟨h1, h2, h3, h4, h5⟩)))), rfl⟩
            | false => exact .inr ⟨.inr ⟨h1, h2, h3, h4, h5⟩, rfl⟩
        clear hc hbw
        rcases hc' with ⟨hc, rfl⟩ | ⟨hc, rfl⟩
        · have HRf := Lib.hid (HBad.out rfl)
          rcases hc with rfl | ⟨rfl, rfl, h0⟩ | ⟨rfl, rfl, rfl⟩ | ⟨rfl, rfl, h0, rfl⟩ | ⟨rfl, rfl, rfl, rfl⟩ | ⟨rfl, rfl, h0, rfl, rfl⟩
          all_goals
            go_wp2_with (go_at_call 77; first | (with_reducible refine (HW1.out _).mono ?_; rintro e w5 ⟨rfl, rfl⟩) | (with_reducible refine (HW2.out _).mono ?_; rintro e w5 ⟨rfl, rfl⟩) | (with_reducible refine (HW3.out _).mono ?_; rintro e w5 ⟨rfl, rfl⟩))
            go_ret
            exact ⟨by rw [HRf.out]; rfl, HBw.out _ HB6.out⟩
        · have HN2 := Lib.hid (HGood.out rfl)
          rcases hc with ⟨rfl, rfl, rfl, rfl⟩ | ⟨rfl, rfl, h0, rfl, rfl⟩
          all_goals
            go_wp2_with (go_at_call 77; first | (with_reducible refine (HW1.out _).mono ?_; rintro e w5 ⟨rfl, rfl⟩) | (with_reducible refine (HW2.out _).mono ?_; rintro e w5 ⟨rfl, rfl⟩) | (with_reducible refine (HW3.out _).mono ?_; rintro e w5 ⟨rfl, rfl⟩))
            clear c0 c1 c2 c3 c4 s0 s1 s2 s3
            go_roundw
            case rel => exact ⟨k + 1, by omega, by go_num, HN2, HB6.out⟩
            case measure => simp [intOf]; omega
      · have hlt' : ¬ ((k : Int) < k2) := by omega
        have HOs : Hid (∀ o ∈ m.osds, unOsd m.epoch o = false) := Lib.hid (fun o ho => by
          obtain ⟨j, hj, rfl⟩ := List.getElem_of_mem ho
          rw [HEm.out]
          exact HN1.out j hj (by have := HK2.out; omega))
        have HX1 := Lib.hid (HX.out.keep hbw)
        have hbw1 := hbw
        have HX := HX1
        clear hbw HBr HX1 HN1
        obtain ⟨W1, rfl⟩ : ∃ V, V = wr := ⟨_, rfl⟩
        have HBw0 := HBw
        have HBw := Lib.hid (fun u (hu : Below W1.heap.size W1 u) => HBw0.out u (hbw1.trans (hu.mono hbw1.size)))
        go_wp2
        clear c0 c1 c2 c3 c4
        go_loopw [5] (fun vi wr => ∃ k : Nat, k ≤ k3 ∧ vi = .int .i64 k ∧ Hid (∀ j (hx : j < m.pools.length), j < k → okPool m.pools[j] = true) ∧ Below W1.heap.size W1 wr) (fun i _ => k3 - (intOf i).toNat)
        case atStart => exact ⟨0, by omega, rfl, Lib.hid (fun j _ h => absurd h (Nat.not_lt_zero _)), Below.refl _ _⟩
        case round =>
          obtain ⟨k, hk, rfl, HN2, hbw⟩ := hrel
          have HBr := Lib.hid hbw
          obtain ⟨c0, c1, c2, c3, c4⟩ := (HX.out.keep hbw).cells
          by_cases hlt : k < k3
          · have hlt' : (k : Int) < k3 := by omega
            have hk0 : (0 : Int) ≤ k := by omega
            have hi : k < m.pools.length := by rw [HK3.out]; exact hlt
            obtain ⟨b1, o1, z1, hl1, hr1⟩ := sl_elem (mapR_rows (HRA.out.keep (HBw.out _ hbw))).2.2.1 k hi
            cases z1
            obtain ⟨x, hx⟩ : ∃ x, m.pools[k] = x := ⟨_, rfl⟩
            have HXx := Lib.hid hx
            rw [hx] at hr1
            have HP := Lib.hid (fun u => rPool_any x u)
            obtain ⟨t1, ht1⟩ : ∃ t, okPool x = t := ⟨_, rfl⟩
            have HT1 := Lib.hid ht1
            rw [ht1] at HP
            clear hx ht1
            obtain ⟨fa, fb, fc, fd⟩ := x
            unfold PoolV.val at HP
            simp only at HP
            have g0 : wr.cell? ⟨b1, o1 + k * 4, none⟩ = some (.int .i64 fa) := hr1 0 _ rfl
            have g1 : wr.cell? ⟨b1, o1 + k * 4 + 1, none⟩ = some (.int .i64 fb) := hr1 1 _ rfl
            have g2 : wr.cell? ⟨b1, o1 + k * 4 + 2, none⟩ = some (.int .i64 fc) := hr1 2 _ rfl
            have g3 : wr.cell? ⟨b1, o1 + k * 4 + 3, none⟩ = some (.int .i64 fd) := hr1 3 _ rfl
            clear hr1 hl1 hbw
            cases t1 with
            | false =>
              have HRf : Hid (R = false) := Lib.hid (HF.out (fun h2 => by
                have h3 := h2.2.2.2.1.2 m.pools[k] (List.getElem_mem hi)
                rw [HXx.out, HT1.out] at h3
                cases h3))
              go_wp2_with (go_at_call 78; refine (HP.out _).mono ?_; rintro e w5 ⟨rfl, hb⟩; have HB5 := Lib.hid (HBr.out.trans (hb.mono HBr.out.size)); clear hb)
              go_ret
              exact ⟨by rw [HRf.out]; rfl, HBw.out _ HB5.out⟩
            | true =>
              have HN3 : Hid (∀ j (hx : j < m.pools.length), j < k + 1 → okPool m.pools[j] = true) := Lib.hid (fun j hx h4 => by
                rcases Nat.lt_or_ge j k with h3 | h3
                · exact HN2.out j hx h3
                · obtain rfl : j = k := by omega
                  rw [HXx.out, HT1.out])
              go_wp2_with (go_at_call 78; refine (HP.out _).mono ?_; rintro e w5 ⟨rfl, hb⟩; have HB5 := Lib.hid (HBr.out.trans (hb.mono HBr.out.size)); clear hb)
              clear c0 c1 c2 c3 c4 g0 g1 g2 g3
              go_roundw
              case rel => exact ⟨k + 1, by omega, by go_num, HN3, HB5.out⟩
              case measure => simp [intOf]; omega
          · have hlt' : ¬ ((k : Int) < k3) := by omega
            have HPs : Hid (m.pools.length ≤ 2 ∧ ∀ p ∈ m.pools, okPool p = true) := Lib.hid ⟨by have := HK3.out; omega, fun p hp => by
              obtain ⟨j, hj, rfl⟩ := List.getElem_of_mem hp
              exact HN2.out j hj (by have := HK3.out; omega)⟩
            have HX2 := Lib.hid (HX.out.keep hbw)
            have hbw2 := hbw
            clear hbw HBr HN2
            obtain ⟨W2, rfl⟩ : ∃ V, V = wr := ⟨_, rfl⟩
            have HBw2 := Lib.hid (fun u (hu : Below W2.heap.size W2 u) => HBw.out u (hbw2.trans (hu.mono hbw2.size)))
            go_wp2
            clear c0 c1 c2 c3 c4
            go_loopw [6] (fun vi wr => ∃ k : Nat, k ≤ k4 ∧ vi = .int .i64 k ∧ Hid (okBansF m.bans k = true) ∧ Below W2.heap.size W2 wr) (fun i _ => k4 - (intOf i).toNat)
            case atStart => exact ⟨0, by omega, rfl, Lib.hid rfl, Below.refl _ _⟩
            case round =>
              obtain ⟨k, hk, rfl, HN3, hbw⟩ := hrel
              have HBr := Lib.hid hbw
              obtain ⟨c0, c1, c2, c3, c4⟩ := (HX2.out.keep hbw).cells
              by_cases hlt : k < k4
              · have hlt' : (k : Int) < k4 := by omega
                have hk0 : (0 : Int) ≤ k := by omega
                have hi : k < m.bans.length := by rw [HK4.out]; exact hlt
                have hsl := (mapR_rows (HRA.out.keep (HBw2.out _ hbw))).2.2.2
                obtain ⟨b1, o1, z1, hl1, hr1⟩ := sl_elem hsl k hi
                cases z1
                have HRo : Hid (∀ j (hj : j < m.bans.length) u, Below wr.heap.size wr u → u.rangeAt b1 (o1 + j * 2) (bc m.bans[j])) := Lib.hid (fun j hj u hu => by
                  obtain ⟨b2, o2, z2, hl2, hr2⟩ := sl_elem hsl j hj
                  cases z2
                  exact range_keep hr2 hl2 hu)
                have HXu : Hid (∀ u, Below wr.heap.size wr u → u.cell? ⟨M, 4, none⟩ = some (.slice (some (⟨b1, o1, none⟩ : Addr)) k4 y4)) := Lib.hid (fun u hu => ((HX2.out.keep hbw).keep hu).cells.2.2.2.2)
                obtain ⟨x, hx⟩ : ∃ x, m.bans[k] = x := ⟨_, rfl⟩
                have hst := okBansF_step hi
                rw [hx, HN3.out, Bool.true_and] at hst
                have hcl := fun u hu => HRo.out k hi u hu
                rw [hx] at hcl
                have hba := fun u => rBan_any x u
                obtain ⟨q1, hq1⟩ : ∃ q, okBan x.client x.inst = q := ⟨_, rfl⟩
                rw [hq1] at hst hba
                have HBaS : Hid (∀ kk, k < kk → okBansF m.bans (k + 1) = false → R = false) := Lib.hid (fun _ _ h => HF.out (fun h2 => by
                  have h3 := h2.2.2.2.2
                  unfold okBans at h3
                  rw [okBansF_false h m.bans.length (by omega)] at h3
                  cases h3))
                obtain ⟨xc, xn⟩ := x
                simp only [bc] at hba
                have HSt := Lib.hid hst; have HBa := Lib.hid hba
                have HCx : Hid (∀ u, Below wr.heap.size wr u → u.cell? ⟨b1, o1 + k * 2, none⟩ = some (.int .i64 xc) ∧ u.cell? ⟨b1, o1 + k * 2 + 1, none⟩ = some (.int .i64 xn)) := Lib.hid (fun u hu => ⟨by have := hcl u hu 0 _ rfl; simpa using this, hcl u hu 1 _ rfl⟩)
                have HD := Lib.hid (below_drew (Below.refl wr.heap.size wr))
                clear hst hba hcl hsl hr1 hl1 hq1 hbw c0 c1 c2 c3
                cases q1 with
                | false =>
                  have HRf := Lib.hid (HBaS.out (k + 1) (by omega) (by rw [HSt.out]; rfl))
                  clear HRo
                  go_upto_region 17 with fail; clear c4
                  --R17F
                  refine wp_region_held_drew (S := fun u => (u.cell? ⟨M, 4, none⟩ = some (.slice (some (⟨b1, o1, none⟩ : Addr)) k4 y4)) ∧ u.cell? ⟨b1, o1 + k * 2, none⟩ = some (.int .i64 xc) ∧ u.cell? ⟨b1, o1 + k * 2 + 1, none⟩ = some (.int .i64 xn)) (by kernel_rfl) (⟨HXu.out _ HD.out, HCx.out _ HD.out⟩) (fun hHeld => ?_)
                  refine wpAnyH_take (i := 0) (oi := { dst := some 98, op := Op.fieldAddr 83 (Operand.tmp 1) 4, type := 0, pos := "ref.go:72", after := #[], guard := none }) (v := ?_) rfl (by kernel_rfl) (by kernel_rfl) (by kernel_rfl) (fun _ _ _ h => h) (Or.inl ⟨by rfl, ?_⟩) hHeld ?_
                  rotate_left 1
                  · intro W hSw
                    (try dsimp only at hSw)
                    go_simp
                    try with_reducible rfl
                  try simp only [Act.put, List.setIfInBounds_toArray, List.set_cons_zero, List.set_cons_succ]
                  refine wpAnyH_take (i := 1) (oi := { dst := some 99, op := Op.load 81 (Operand.tmp 98), type := 81, pos := "ref.go:72", after := #[{ on := 0, ground := Ground.data }], guard := none }) (v := ?_) rfl (by kernel_rfl) (by kernel_rfl) (by kernel_rfl) (fun _ _ _ h => h) (Or.inl ⟨by rfl, ?_⟩) hHeld ?_
                  rotate_left 1
                  · intro W hSw
                    (try dsimp only at hSw)
                    go_simp
                    try with_reducible rfl
                  try simp only [Act.put, List.setIfInBounds_toArray, List.set_cons_zero, List.set_cons_succ]
                  refine wpAnyH_take (i := 2) (oi := { dst := some 100, op := Op.move (Operand.tmp 6), type := 3, pos := "ref.go:72", after := #[], guard := none }) (v := ?_) rfl (by kernel_rfl) (by kernel_rfl) (by kernel_rfl) (fun _ _ _ h => h) (Or.inl ⟨by rfl, ?_⟩) hHeld ?_
                  rotate_left 1
                  · intro W hSw
                    (try dsimp only at hSw)
                    go_simp
                    try with_reducible rfl
                  try simp only [Act.put, List.setIfInBounds_toArray, List.set_cons_zero, List.set_cons_succ]
                  refine wpAnyH_take (i := 3) (oi := { dst := some 101, op := Op.indexAddr 81 (Operand.tmp 99) (Operand.tmp 100), type := 0, pos := "ref.go:72", after := #[{ on := 1, ground := Ground.data }, { on := 2, ground := Ground.data }], guard := none }) (v := ?_) rfl (by kernel_rfl) (by kernel_rfl) (by kernel_rfl) (fun _ _ _ h => h) (Or.inl ⟨by rfl, ?_⟩) hHeld ?_
                  rotate_left 1
                  · intro W hSw
                    (try dsimp only at hSw)
                    go_simp
                    try with_reducible rfl
                  try simp only [Act.put, List.setIfInBounds_toArray, List.set_cons_zero, List.set_cons_succ]
                  refine wpAnyH_take (i := 4) (oi := { dst := some 102, op := Op.load 136 (Operand.tmp 101), type := 136, pos := "ref.go:72", after := #[{ on := 3, ground := Ground.data }], guard := none }) (v := ?_) rfl (by kernel_rfl) (by kernel_rfl) (by kernel_rfl) (fun _ _ _ h => h) (Or.inl ⟨by rfl, ?_⟩) hHeld ?_
                  rotate_left 1
                  · intro W hSw
                    (try dsimp only at hSw)
                    go_simp
                    try with_reducible rfl
                  try simp only [Act.put, List.setIfInBounds_toArray, List.set_cons_zero, List.set_cons_succ]
                  refine wpAnyH_ready (rs := [5]) (by kernel_rfl) (by simp) ?_
                  refine AllReadyH.cons (o := { dst := some 103, op := Op.call { callee := Callee.value (Operand.func 79), args := #[Operand.tmp 102], argTypes := #[136] }, type := 4, pos := "ref.go:72", after := #[{ on := 4, ground := Ground.data }], guard := none }) rfl (fun K7 hK7 => ?_) ?_
                  · go_simp
                    refine (HBa.out _).mono ?_
                    rintro e w1 ⟨rfl, hb⟩
                    have HB1 : Hid (Below wr.heap.size wr w1) := Lib.hid (HD.out.trans (hb.mono HD.out.size))
                    clear hb
                    try dsimp only
                    refine hK7.out _ _ (⟨HXu.out _ HB1.out, HCx.out _ HB1.out⟩) (fun hHeld => ?_)
                    clear hK7 K7
                    try simp only [Act.put, List.setIfInBounds_toArray, List.set_cons_zero, List.set_cons_succ]
                    refine wpAnyH_take (i := 6) (oi := { dst := some 104, op := Op.unOp UnOp.not 4 (Operand.tmp 103), type := 4, pos := "ref.go:72", after := #[{ on := 5, ground := Ground.data }], guard := none }) (v := ?_) rfl (by kernel_rfl) (by kernel_rfl) (by kernel_rfl) (fun _ _ _ h => h) (Or.inl ⟨by rfl, ?_⟩) hHeld ?_
                    rotate_left 1
                    · intro W hSw
                      (try dsimp only at hSw)
                      go_simp
                      try with_reducible rfl
                    try simp only [Act.put, List.setIfInBounds_toArray, List.set_cons_zero, List.set_cons_succ]
                    refine wpAnyH_take (i := 7) (oi := { dst := some 105, op := Op.move (Operand.tmp 104), type := 4, pos := "ref.go:72", after := #[{ on := 6, ground := Ground.data }, { on := 5, ground := Ground.chain }], guard := none }) (v := ?_) rfl (by kernel_rfl) (by kernel_rfl) (by kernel_rfl) (fun _ _ _ h => h) (Or.inl ⟨by rfl, ?_⟩) hHeld ?_
                    rotate_left 1
                    · intro W hSw
                      (try dsimp only at hSw)
                      go_simp
                      try with_reducible rfl
                    try simp only [Act.put, List.setIfInBounds_toArray, List.set_cons_zero, List.set_cons_succ]
                    refine wpAnyH_take (i := 8) (oi := { dst := some 106, op := Op.move (Operand.tmp 6), type := 3, pos := "ref.go:72", after := #[{ on := 7, ground := Ground.guard }], guard := some (7, false) }) (v := undef) rfl (by kernel_rfl) (by kernel_rfl) (by kernel_rfl) (fun _ _ _ h => h) (Or.inr ⟨by rfl, rfl⟩) hHeld ?_
                    try simp only [Act.put, List.setIfInBounds_toArray, List.set_cons_zero, List.set_cons_succ]
                    refine wpAnyH_take (i := 9) (oi := { dst := some 107, op := Op.binOp BinOp.gtr 3 (Operand.tmp 106) (Operand.const (Value.int IntKind.i64 0)) 3, type := 4, pos := "ref.go:72", after := #[{ on := 8, ground := Ground.data }, { on := 7, ground := Ground.guard }], guard := some (7, false) }) (v := undef) rfl (by kernel_rfl) (by kernel_rfl) (by kernel_rfl) (fun _ _ _ h => h) (Or.inr ⟨by rfl, rfl⟩) hHeld ?_
                    try simp only [Act.put, List.setIfInBounds_toArray, List.set_cons_zero, List.set_cons_succ]
                    refine wpAnyH_take (i := 10) (oi := { dst := some 108, op := Op.move (Operand.tmp 107), type := 4, pos := "ref.go:72", after := #[{ on := 9, ground := Ground.data }, { on := 7, ground := Ground.chain }, { on := 7, ground := Ground.guard }], guard := some (7, false) }) (v := undef) rfl (by kernel_rfl) (by kernel_rfl) (by kernel_rfl) (fun _ _ _ h => h) (Or.inr ⟨by rfl, rfl⟩) hHeld ?_
                    try simp only [Act.put, List.setIfInBounds_toArray, List.set_cons_zero, List.set_cons_succ]
                    refine wpAnyH_take (i := 11) (oi := { dst := some 109, op := Op.fieldAddr 83 (Operand.tmp 1) 4, type := 0, pos := "ref.go:72", after := #[{ on := 10, ground := Ground.guard }], guard := some (10, true) }) (v := undef) rfl (by kernel_rfl) (by kernel_rfl) (by kernel_rfl) (fun _ _ _ h => h) (Or.inr ⟨by rfl, rfl⟩) hHeld ?_
                    try simp only [Act.put, List.setIfInBounds_toArray, List.set_cons_zero, List.set_cons_succ]
                    refine wpAnyH_take (i := 12) (oi := { dst := some 110, op := Op.load 81 (Operand.tmp 109), type := 81, pos := "ref.go:72", after := #[{ on := 11, ground := Ground.data }, { on := 10, ground := Ground.guard }], guard := some (10, true) }) (v := undef) rfl (by kernel_rfl) (by kernel_rfl) (by kernel_rfl) (fun _ _ _ h => h) (Or.inr ⟨by rfl, rfl⟩) hHeld ?_
                    try simp only [Act.put, List.setIfInBounds_toArray, List.set_cons_zero, List.set_cons_succ]
                    refine wpAnyH_take (i := 13) (oi := { dst := some 111, op := Op.move (Operand.tmp 6), type := 3, pos := "ref.go:72", after := #[{ on := 10, ground := Ground.guard }], guard := some (10, true) }) (v := undef) rfl (by kernel_rfl) (by kernel_rfl) (by kernel_rfl) (fun _ _ _ h => h) (Or.inr ⟨by rfl, rfl⟩) hHeld ?_
                    try simp only [Act.put, List.setIfInBounds_toArray, List.set_cons_zero, List.set_cons_succ]
                    refine wpAnyH_take (i := 14) (oi := { dst := some 112, op := Op.binOp BinOp.sub 3 (Operand.tmp 111) (Operand.const (Value.int IntKind.i64 1)) 3, type := 3, pos := "ref.go:72", after := #[{ on := 13, ground := Ground.data }, { on := 10, ground := Ground.guard }], guard := some (10, true) }) (v := undef) rfl (by kernel_rfl) (by kernel_rfl) (by kernel_rfl) (fun _ _ _ h => h) (Or.inr ⟨by rfl, rfl⟩) hHeld ?_
                    try simp only [Act.put, List.setIfInBounds_toArray, List.set_cons_zero, List.set_cons_succ]
                    refine wpAnyH_take (i := 15) (oi := { dst := some 113, op := Op.indexAddr 81 (Operand.tmp 110) (Operand.tmp 112), type := 0, pos := "ref.go:72", after := #[{ on := 12, ground := Ground.data }, { on := 14, ground := Ground.data }, { on := 10, ground := Ground.guard }], guard := some (10, true) }) (v := undef) rfl (by kernel_rfl) (by kernel_rfl) (by kernel_rfl) (fun _ _ _ h => h) (Or.inr ⟨by rfl, rfl⟩) hHeld ?_
                    try simp only [Act.put, List.setIfInBounds_toArray, List.set_cons_zero, List.set_cons_succ]
                    refine wpAnyH_take (i := 16) (oi := { dst := some 114, op := Op.load 136 (Operand.tmp 113), type := 136, pos := "ref.go:72", after := #[{ on := 15, ground := Ground.data }, { on := 10, ground := Ground.guard }], guard := some (10, true) }) (v := undef) rfl (by kernel_rfl) (by kernel_rfl) (by kernel_rfl) (fun _ _ _ h => h) (Or.inr ⟨by rfl, rfl⟩) hHeld ?_
                    try simp only [Act.put, List.setIfInBounds_toArray, List.set_cons_zero, List.set_cons_succ]
                    refine wpAnyH_take (i := 17) (oi := { dst := some 115, op := Op.fieldAddr 83 (Operand.tmp 1) 4, type := 0, pos := "ref.go:72", after := #[{ on := 10, ground := Ground.guard }], guard := some (10, true) }) (v := undef) rfl (by kernel_rfl) (by kernel_rfl) (by kernel_rfl) (fun _ _ _ h => h) (Or.inr ⟨by rfl, rfl⟩) hHeld ?_
                    try simp only [Act.put, List.setIfInBounds_toArray, List.set_cons_zero, List.set_cons_succ]
                    refine wpAnyH_take (i := 18) (oi := { dst := some 116, op := Op.load 81 (Operand.tmp 115), type := 81, pos := "ref.go:72", after := #[{ on := 17, ground := Ground.data }, { on := 10, ground := Ground.guard }], guard := some (10, true) }) (v := undef) rfl (by kernel_rfl) (by kernel_rfl) (by kernel_rfl) (fun _ _ _ h => h) (Or.inr ⟨by rfl, rfl⟩) hHeld ?_
                    try simp only [Act.put, List.setIfInBounds_toArray, List.set_cons_zero, List.set_cons_succ]
                    refine wpAnyH_take (i := 19) (oi := { dst := some 117, op := Op.move (Operand.tmp 6), type := 3, pos := "ref.go:72", after := #[{ on := 10, ground := Ground.guard }], guard := some (10, true) }) (v := undef) rfl (by kernel_rfl) (by kernel_rfl) (by kernel_rfl) (fun _ _ _ h => h) (Or.inr ⟨by rfl, rfl⟩) hHeld ?_
                    try simp only [Act.put, List.setIfInBounds_toArray, List.set_cons_zero, List.set_cons_succ]
                    refine wpAnyH_take (i := 20) (oi := { dst := some 118, op := Op.indexAddr 81 (Operand.tmp 116) (Operand.tmp 117), type := 0, pos := "ref.go:72", after := #[{ on := 18, ground := Ground.data }, { on := 19, ground := Ground.data }, { on := 10, ground := Ground.guard }], guard := some (10, true) }) (v := undef) rfl (by kernel_rfl) (by kernel_rfl) (by kernel_rfl) (fun _ _ _ h => h) (Or.inr ⟨by rfl, rfl⟩) hHeld ?_
                    try simp only [Act.put, List.setIfInBounds_toArray, List.set_cons_zero, List.set_cons_succ]
                    refine wpAnyH_take (i := 21) (oi := { dst := some 119, op := Op.load 136 (Operand.tmp 118), type := 136, pos := "ref.go:72", after := #[{ on := 20, ground := Ground.data }, { on := 10, ground := Ground.guard }], guard := some (10, true) }) (v := undef) rfl (by kernel_rfl) (by kernel_rfl) (by kernel_rfl) (fun _ _ _ h => h) (Or.inr ⟨by rfl, rfl⟩) hHeld ?_
                    try simp only [Act.put, List.setIfInBounds_toArray, List.set_cons_zero, List.set_cons_succ]
                    refine wpAnyH_take (i := 22) (oi := { dst := some 120, op := Op.call { callee := Callee.value (Operand.func 80), args := #[Operand.tmp 114, Operand.tmp 119], argTypes := #[136, 136] }, type := 4, pos := "ref.go:72", after := #[{ on := 16, ground := Ground.data }, { on := 21, ground := Ground.data }, { on := 10, ground := Ground.chain }, { on := 10, ground := Ground.guard }], guard := some (10, true) }) (v := undef) rfl (by kernel_rfl) (by kernel_rfl) (by kernel_rfl) (fun _ _ _ h => h) (Or.inr ⟨by rfl, rfl⟩) hHeld ?_
                    try simp only [Act.put, List.setIfInBounds_toArray, List.set_cons_zero, List.set_cons_succ]
                    refine wpAnyH_take (i := 23) (oi := { dst := some 121, op := Op.unOp UnOp.not 4 (Operand.tmp 120), type := 4, pos := "ref.go:72", after := #[{ on := 22, ground := Ground.data }, { on := 10, ground := Ground.guard }], guard := some (10, true) }) (v := undef) rfl (by kernel_rfl) (by kernel_rfl) (by kernel_rfl) (fun _ _ _ h => h) (Or.inr ⟨by rfl, rfl⟩) hHeld ?_
                    try simp only [Act.put, List.setIfInBounds_toArray, List.set_cons_zero, List.set_cons_succ]
                    refine wpAnyH_take (i := 24) (oi := { dst := some 122, op := Op.pick (Operand.tmp 108) (Operand.tmp 121) (Operand.const (Value.bool false)), type := 4, pos := "ref.go:72", after := #[{ on := 10, ground := Ground.data }, { on := 23, ground := Ground.data }, { on := 7, ground := Ground.guard }], guard := some (7, false) }) (v := undef) rfl (by kernel_rfl) (by kernel_rfl) (by kernel_rfl) (fun _ _ _ h => h) (Or.inr ⟨by rfl, rfl⟩) hHeld ?_
                    try simp only [Act.put, List.setIfInBounds_toArray, List.set_cons_zero, List.set_cons_succ]
                    refine wpAnyH_take (i := 25) (oi := { dst := some 123, op := Op.pick (Operand.tmp 105) (Operand.const (Value.bool true)) (Operand.tmp 122), type := 4, pos := "ref.go:72", after := #[{ on := 7, ground := Ground.data }, { on := 24, ground := Ground.data }], guard := none }) (v := ?_) rfl (by kernel_rfl) (by kernel_rfl) (by kernel_rfl) (fun _ _ _ h => h) (Or.inl ⟨by rfl, ?_⟩) hHeld ?_
                    rotate_left 1
                    · intro W hSw
                      (try dsimp only at hSw)
                      go_simp
                      try with_reducible rfl
                    try simp only [Act.put, List.setIfInBounds_toArray, List.set_cons_zero, List.set_cons_succ]
                    refine wpAnyH_done (by kernel_rfl) ?_ _
                    have HB9 := Lib.hid (HBr.out.trans (HB1.out.mono HBr.out.size))
                    clear hHeld
                    go_wp2
                    go_ret
                    exact ⟨by rw [HRf.out]; rfl, HBw2.out _ HB9.out⟩
                  exact AllReadyH.nil
                  --R17FE
                | true =>
                  have hst := HSt.out
                  rw [Bool.true_and] at hst
                  cases k with
                  | zero =>
                    have HN4 : Hid (okBansF m.bans 1 = true) := Lib.hid (by rw [hst]; rfl)
                    clear HRo hst
                    simp only [Nat.zero_mul, Nat.add_zero] at HCx
                    go_upto_region 17 with fail; clear c4
                    --R17Z
                    refine wp_region_held_drew (S := fun u => (u.cell? ⟨M, 4, none⟩ = some (.slice (some (⟨b1, o1, none⟩ : Addr)) k4 y4)) ∧ u.cell? ⟨b1, o1, none⟩ = some (.int .i64 xc) ∧ u.cell? ⟨b1, o1 + 1, none⟩ = some (.int .i64 xn)) (by kernel_rfl) (⟨HXu.out _ HD.out, HCx.out _ HD.out⟩) (fun hHeld => ?_)
                    refine wpAnyH_take (i := 0) (oi := { dst := some 98, op := Op.fieldAddr 83 (Operand.tmp 1) 4, type := 0, pos := "ref.go:72", after := #[], guard := none }) (v := ?_) rfl (by kernel_rfl) (by kernel_rfl) (by kernel_rfl) (fun _ _ _ h => h) (Or.inl ⟨by rfl, ?_⟩) hHeld ?_
                    rotate_left 1
                    · intro W hSw
                      (try dsimp only at hSw)
                      go_simp
                      try with_reducible rfl
                    try simp only [Act.put, List.setIfInBounds_toArray, List.set_cons_zero, List.set_cons_succ]
                    refine wpAnyH_take (i := 1) (oi := { dst := some 99, op := Op.load 81 (Operand.tmp 98), type := 81, pos := "ref.go:72", after := #[{ on := 0, ground := Ground.data }], guard := none }) (v := ?_) rfl (by kernel_rfl) (by kernel_rfl) (by kernel_rfl) (fun _ _ _ h => h) (Or.inl ⟨by rfl, ?_⟩) hHeld ?_
                    rotate_left 1
                    · intro W hSw
                      (try dsimp only at hSw)
                      go_simp
                      try with_reducible rfl
                    try simp only [Act.put, List.setIfInBounds_toArray, List.set_cons_zero, List.set_cons_succ]
                    refine wpAnyH_take (i := 2) (oi := { dst := some 100, op := Op.move (Operand.tmp 6), type := 3, pos := "ref.go:72", after := #[], guard := none }) (v := ?_) rfl (by kernel_rfl) (by kernel_rfl) (by kernel_rfl) (fun _ _ _ h => h) (Or.inl ⟨by rfl, ?_⟩) hHeld ?_
                    rotate_left 1
                    · intro W hSw
                      (try dsimp only at hSw)
                      go_simp
                      try with_reducible rfl
                    try simp only [Act.put, List.setIfInBounds_toArray, List.set_cons_zero, List.set_cons_succ]
                    refine wpAnyH_take (i := 3) (oi := { dst := some 101, op := Op.indexAddr 81 (Operand.tmp 99) (Operand.tmp 100), type := 0, pos := "ref.go:72", after := #[{ on := 1, ground := Ground.data }, { on := 2, ground := Ground.data }], guard := none }) (v := ?_) rfl (by kernel_rfl) (by kernel_rfl) (by kernel_rfl) (fun _ _ _ h => h) (Or.inl ⟨by rfl, ?_⟩) hHeld ?_
                    rotate_left 1
                    · intro W hSw
                      (try dsimp only at hSw)
                      go_simp
                      try with_reducible rfl
                    try simp only [Act.put, List.setIfInBounds_toArray, List.set_cons_zero, List.set_cons_succ]
                    refine wpAnyH_take (i := 4) (oi := { dst := some 102, op := Op.load 136 (Operand.tmp 101), type := 136, pos := "ref.go:72", after := #[{ on := 3, ground := Ground.data }], guard := none }) (v := ?_) rfl (by kernel_rfl) (by kernel_rfl) (by kernel_rfl) (fun _ _ _ h => h) (Or.inl ⟨by rfl, ?_⟩) hHeld ?_
                    rotate_left 1
                    · intro W hSw
                      (try dsimp only at hSw)
                      go_simp
                      try with_reducible rfl
                    try simp only [Act.put, List.setIfInBounds_toArray, List.set_cons_zero, List.set_cons_succ]
                    refine wpAnyH_ready (rs := [5]) (by kernel_rfl) (by simp) ?_
                    refine AllReadyH.cons (o := { dst := some 103, op := Op.call { callee := Callee.value (Operand.func 79), args := #[Operand.tmp 102], argTypes := #[136] }, type := 4, pos := "ref.go:72", after := #[{ on := 4, ground := Ground.data }], guard := none }) rfl (fun K7 hK7 => ?_) ?_
                    · go_simp
                      refine (HBa.out _).mono ?_
                      rintro e w1 ⟨rfl, hb⟩
                      have HB1 : Hid (Below wr.heap.size wr w1) := Lib.hid (HD.out.trans (hb.mono HD.out.size))
                      clear hb
                      try dsimp only
                      refine hK7.out _ _ (⟨HXu.out _ HB1.out, HCx.out _ HB1.out⟩) (fun hHeld => ?_)
                      clear hK7 K7
                      try simp only [Act.put, List.setIfInBounds_toArray, List.set_cons_zero, List.set_cons_succ]
                      refine wpAnyH_take (i := 6) (oi := { dst := some 104, op := Op.unOp UnOp.not 4 (Operand.tmp 103), type := 4, pos := "ref.go:72", after := #[{ on := 5, ground := Ground.data }], guard := none }) (v := ?_) rfl (by kernel_rfl) (by kernel_rfl) (by kernel_rfl) (fun _ _ _ h => h) (Or.inl ⟨by rfl, ?_⟩) hHeld ?_
                      rotate_left 1
                      · intro W hSw
                        (try dsimp only at hSw)
                        go_simp
                        try with_reducible rfl
                      try simp only [Act.put, List.setIfInBounds_toArray, List.set_cons_zero, List.set_cons_succ]
                      refine wpAnyH_take (i := 7) (oi := { dst := some 105, op := Op.move (Operand.tmp 104), type := 4, pos := "ref.go:72", after := #[{ on := 6, ground := Ground.data }, { on := 5, ground := Ground.chain }], guard := none }) (v := ?_) rfl (by kernel_rfl) (by kernel_rfl) (by kernel_rfl) (fun _ _ _ h => h) (Or.inl ⟨by rfl, ?_⟩) hHeld ?_
                      rotate_left 1
                      · intro W hSw
                        (try dsimp only at hSw)
                        go_simp
                        try with_reducible rfl
                      try simp only [Act.put, List.setIfInBounds_toArray, List.set_cons_zero, List.set_cons_succ]
                      refine wpAnyH_take (i := 8) (oi := { dst := some 106, op := Op.move (Operand.tmp 6), type := 3, pos := "ref.go:72", after := #[{ on := 7, ground := Ground.guard }], guard := some (7, false) }) (v := ?_) rfl (by kernel_rfl) (by kernel_rfl) (by kernel_rfl) (fun _ _ _ h => h) (Or.inl ⟨by rfl, ?_⟩) hHeld ?_
                      rotate_left 1
                      · intro W hSw
                        (try dsimp only at hSw)
                        go_simp
                        try with_reducible rfl
                      try simp only [Act.put, List.setIfInBounds_toArray, List.set_cons_zero, List.set_cons_succ]
                      refine wpAnyH_take (i := 9) (oi := { dst := some 107, op := Op.binOp BinOp.gtr 3 (Operand.tmp 106) (Operand.const (Value.int IntKind.i64 0)) 3, type := 4, pos := "ref.go:72", after := #[{ on := 8, ground := Ground.data }, { on := 7, ground := Ground.guard }], guard := some (7, false) }) (v := ?_) rfl (by kernel_rfl) (by kernel_rfl) (by kernel_rfl) (fun _ _ _ h => h) (Or.inl ⟨by rfl, ?_⟩) hHeld ?_
                      rotate_left 1
                      · intro W hSw
                        (try dsimp only at hSw)
                        go_simp
                        try with_reducible rfl
                      try simp only [Act.put, List.setIfInBounds_toArray, List.set_cons_zero, List.set_cons_succ]
                      refine wpAnyH_take (i := 10) (oi := { dst := some 108, op := Op.move (Operand.tmp 107), type := 4, pos := "ref.go:72", after := #[{ on := 9, ground := Ground.data }, { on := 7, ground := Ground.chain }, { on := 7, ground := Ground.guard }], guard := some (7, false) }) (v := ?_) rfl (by kernel_rfl) (by kernel_rfl) (by kernel_rfl) (fun _ _ _ h => h) (Or.inl ⟨by rfl, ?_⟩) hHeld ?_
                      rotate_left 1
                      · intro W hSw
                        (try dsimp only at hSw)
                        go_simp
                        try with_reducible rfl
                      try simp only [Act.put, List.setIfInBounds_toArray, List.set_cons_zero, List.set_cons_succ]
                      refine wpAnyH_take (i := 11) (oi := { dst := some 109, op := Op.fieldAddr 83 (Operand.tmp 1) 4, type := 0, pos := "ref.go:72", after := #[{ on := 10, ground := Ground.guard }], guard := some (10, true) }) (v := undef) rfl (by kernel_rfl) (by kernel_rfl) (by kernel_rfl) (fun _ _ _ h => h) (Or.inr ⟨by rfl, rfl⟩) hHeld ?_
                      try simp only [Act.put, List.setIfInBounds_toArray, List.set_cons_zero, List.set_cons_succ]
                      refine wpAnyH_take (i := 12) (oi := { dst := some 110, op := Op.load 81 (Operand.tmp 109), type := 81, pos := "ref.go:72", after := #[{ on := 11, ground := Ground.data }, { on := 10, ground := Ground.guard }], guard := some (10, true) }) (v := undef) rfl (by kernel_rfl) (by kernel_rfl) (by kernel_rfl) (fun _ _ _ h => h) (Or.inr ⟨by rfl, rfl⟩) hHeld ?_
                      try simp only [Act.put, List.setIfInBounds_toArray, List.set_cons_zero, List.set_cons_succ]
                      refine wpAnyH_take (i := 13) (oi := { dst := some 111, op := Op.move (Operand.tmp 6), type := 3, pos := "ref.go:72", after := #[{ on := 10, ground := Ground.guard }], guard := some (10, true) }) (v := undef) rfl (by kernel_rfl) (by kernel_rfl) (by kernel_rfl) (fun _ _ _ h => h) (Or.inr ⟨by rfl, rfl⟩) hHeld ?_
                      try simp only [Act.put, List.setIfInBounds_toArray, List.set_cons_zero, List.set_cons_succ]
                      refine wpAnyH_take (i := 14) (oi := { dst := some 112, op := Op.binOp BinOp.sub 3 (Operand.tmp 111) (Operand.const (Value.int IntKind.i64 1)) 3, type := 3, pos := "ref.go:72", after := #[{ on := 13, ground := Ground.data }, { on := 10, ground := Ground.guard }], guard := some (10, true) }) (v := undef) rfl (by kernel_rfl) (by kernel_rfl) (by kernel_rfl) (fun _ _ _ h => h) (Or.inr ⟨by rfl, rfl⟩) hHeld ?_
                      try simp only [Act.put, List.setIfInBounds_toArray, List.set_cons_zero, List.set_cons_succ]
                      refine wpAnyH_take (i := 15) (oi := { dst := some 113, op := Op.indexAddr 81 (Operand.tmp 110) (Operand.tmp 112), type := 0, pos := "ref.go:72", after := #[{ on := 12, ground := Ground.data }, { on := 14, ground := Ground.data }, { on := 10, ground := Ground.guard }], guard := some (10, true) }) (v := undef) rfl (by kernel_rfl) (by kernel_rfl) (by kernel_rfl) (fun _ _ _ h => h) (Or.inr ⟨by rfl, rfl⟩) hHeld ?_
                      try simp only [Act.put, List.setIfInBounds_toArray, List.set_cons_zero, List.set_cons_succ]
                      refine wpAnyH_take (i := 16) (oi := { dst := some 114, op := Op.load 136 (Operand.tmp 113), type := 136, pos := "ref.go:72", after := #[{ on := 15, ground := Ground.data }, { on := 10, ground := Ground.guard }], guard := some (10, true) }) (v := undef) rfl (by kernel_rfl) (by kernel_rfl) (by kernel_rfl) (fun _ _ _ h => h) (Or.inr ⟨by rfl, rfl⟩) hHeld ?_
                      try simp only [Act.put, List.setIfInBounds_toArray, List.set_cons_zero, List.set_cons_succ]
                      refine wpAnyH_take (i := 17) (oi := { dst := some 115, op := Op.fieldAddr 83 (Operand.tmp 1) 4, type := 0, pos := "ref.go:72", after := #[{ on := 10, ground := Ground.guard }], guard := some (10, true) }) (v := undef) rfl (by kernel_rfl) (by kernel_rfl) (by kernel_rfl) (fun _ _ _ h => h) (Or.inr ⟨by rfl, rfl⟩) hHeld ?_
                      try simp only [Act.put, List.setIfInBounds_toArray, List.set_cons_zero, List.set_cons_succ]
                      refine wpAnyH_take (i := 18) (oi := { dst := some 116, op := Op.load 81 (Operand.tmp 115), type := 81, pos := "ref.go:72", after := #[{ on := 17, ground := Ground.data }, { on := 10, ground := Ground.guard }], guard := some (10, true) }) (v := undef) rfl (by kernel_rfl) (by kernel_rfl) (by kernel_rfl) (fun _ _ _ h => h) (Or.inr ⟨by rfl, rfl⟩) hHeld ?_
                      try simp only [Act.put, List.setIfInBounds_toArray, List.set_cons_zero, List.set_cons_succ]
                      refine wpAnyH_take (i := 19) (oi := { dst := some 117, op := Op.move (Operand.tmp 6), type := 3, pos := "ref.go:72", after := #[{ on := 10, ground := Ground.guard }], guard := some (10, true) }) (v := undef) rfl (by kernel_rfl) (by kernel_rfl) (by kernel_rfl) (fun _ _ _ h => h) (Or.inr ⟨by rfl, rfl⟩) hHeld ?_
                      try simp only [Act.put, List.setIfInBounds_toArray, List.set_cons_zero, List.set_cons_succ]
                      refine wpAnyH_take (i := 20) (oi := { dst := some 118, op := Op.indexAddr 81 (Operand.tmp 116) (Operand.tmp 117), type := 0, pos := "ref.go:72", after := #[{ on := 18, ground := Ground.data }, { on := 19, ground := Ground.data }, { on := 10, ground := Ground.guard }], guard := some (10, true) }) (v := undef) rfl (by kernel_rfl) (by kernel_rfl) (by kernel_rfl) (fun _ _ _ h => h) (Or.inr ⟨by rfl, rfl⟩) hHeld ?_
                      try simp only [Act.put, List.setIfInBounds_toArray, List.set_cons_zero, List.set_cons_succ]
                      refine wpAnyH_take (i := 21) (oi := { dst := some 119, op := Op.load 136 (Operand.tmp 118), type := 136, pos := "ref.go:72", after := #[{ on := 20, ground := Ground.data }, { on := 10, ground := Ground.guard }], guard := some (10, true) }) (v := undef) rfl (by kernel_rfl) (by kernel_rfl) (by kernel_rfl) (fun _ _ _ h => h) (Or.inr ⟨by rfl, rfl⟩) hHeld ?_
                      try simp only [Act.put, List.setIfInBounds_toArray, List.set_cons_zero, List.set_cons_succ]
                      refine wpAnyH_take (i := 22) (oi := { dst := some 120, op := Op.call { callee := Callee.value (Operand.func 80), args := #[Operand.tmp 114, Operand.tmp 119], argTypes := #[136, 136] }, type := 4, pos := "ref.go:72", after := #[{ on := 16, ground := Ground.data }, { on := 21, ground := Ground.data }, { on := 10, ground := Ground.chain }, { on := 10, ground := Ground.guard }], guard := some (10, true) }) (v := undef) rfl (by kernel_rfl) (by kernel_rfl) (by kernel_rfl) (fun _ _ _ h => h) (Or.inr ⟨by rfl, rfl⟩) hHeld ?_
                      try simp only [Act.put, List.setIfInBounds_toArray, List.set_cons_zero, List.set_cons_succ]
                      refine wpAnyH_take (i := 23) (oi := { dst := some 121, op := Op.unOp UnOp.not 4 (Operand.tmp 120), type := 4, pos := "ref.go:72", after := #[{ on := 22, ground := Ground.data }, { on := 10, ground := Ground.guard }], guard := some (10, true) }) (v := undef) rfl (by kernel_rfl) (by kernel_rfl) (by kernel_rfl) (fun _ _ _ h => h) (Or.inr ⟨by rfl, rfl⟩) hHeld ?_
                      try simp only [Act.put, List.setIfInBounds_toArray, List.set_cons_zero, List.set_cons_succ]
                      refine wpAnyH_take (i := 24) (oi := { dst := some 122, op := Op.pick (Operand.tmp 108) (Operand.tmp 121) (Operand.const (Value.bool false)), type := 4, pos := "ref.go:72", after := #[{ on := 10, ground := Ground.data }, { on := 23, ground := Ground.data }, { on := 7, ground := Ground.guard }], guard := some (7, false) }) (v := ?_) rfl (by kernel_rfl) (by kernel_rfl) (by kernel_rfl) (fun _ _ _ h => h) (Or.inl ⟨by rfl, ?_⟩) hHeld ?_
                      rotate_left 1
                      · intro W hSw
                        (try dsimp only at hSw)
                        go_simp
                        try with_reducible rfl
                      try simp only [Act.put, List.setIfInBounds_toArray, List.set_cons_zero, List.set_cons_succ]
                      refine wpAnyH_take (i := 25) (oi := { dst := some 123, op := Op.pick (Operand.tmp 105) (Operand.const (Value.bool true)) (Operand.tmp 122), type := 4, pos := "ref.go:72", after := #[{ on := 7, ground := Ground.data }, { on := 24, ground := Ground.data }], guard := none }) (v := ?_) rfl (by kernel_rfl) (by kernel_rfl) (by kernel_rfl) (fun _ _ _ h => h) (Or.inl ⟨by rfl, ?_⟩) hHeld ?_
                      rotate_left 1
                      · intro W hSw
                        (try dsimp only at hSw)
                        go_simp
                        try with_reducible rfl
                      try simp only [Act.put, List.setIfInBounds_toArray, List.set_cons_zero, List.set_cons_succ]
                      refine wpAnyH_done (by kernel_rfl) ?_ _
                      have HB9 := Lib.hid (HBr.out.trans (HB1.out.mono HBr.out.size))
                      clear hHeld
                      go_wp2
                      go_roundw
                      case rel => exact ⟨1, by omega, by go_num, HN4, HB9.out⟩
                      case measure => simp [intOf]; omega
                    exact AllReadyH.nil
                    --R17ZE
                  | succ k =>
                    have hik : k < m.bans.length := by omega
                    obtain ⟨y, hy⟩ : ∃ y, m.bans[k] = y := ⟨_, rfl⟩
                    rw [show k + 1 - 1 = k by omega, List.getD_eq_getElem?_getD, List.getElem?_eq_getElem hik, Option.getD_some, hy] at hst
                    rw [decide_eq_false (by omega : ¬ k + 1 = 0), Bool.false_or, ordB_lt] at hst
                    have hro := fun u hu => HRo.out k hik u hu
                    rw [hy] at hro
                    obtain ⟨yc, yn⟩ := y
                    have HCy : Hid (∀ u, Below wr.heap.size wr u → u.cell? ⟨b1, o1 + k * 2, none⟩ = some (.int .i64 yc) ∧ u.cell? ⟨b1, o1 + k * 2 + 1, none⟩ = some (.int .i64 yn)) := Lib.hid (fun u hu => ⟨by have := hro u hu 0 _ rfl; simpa using this, hro u hu 1 _ rfl⟩)
                    have hbe := fun u => rBefore_any ⟨yc, yn⟩ ⟨xc, xn⟩ u
                    obtain ⟨z, hz⟩ : ∃ z, ltBan ⟨yc, yn⟩ ⟨xc, xn⟩ = z := ⟨_, rfl⟩
                    rw [hz] at hbe hst
                    simp only [bc] at hbe
                    have HBe := Lib.hid hbe; have HS2 := Lib.hid hst
                    clear hbe hst hro hy hz HRo HSt
                    cases z with
                    | true =>
                      have HN4 : Hid (okBansF m.bans (k + 1 + 1) = true) := Lib.hid HS2.out
                      obtain ⟨J, hJ⟩ : ∃ J, k + 1 = J := ⟨_, rfl⟩
                      have HJ := Lib.hid hJ
                      rw [hJ] at hlt hlt' hk0 HCx HN4 ⊢
                      have hkw : True → IntKind.i64.wrap ((J : Int) - 1) = (k : Int) := fun _ => by rw [← HJ.out, IntKind.wrap_i64]; omega
                      have hJ0 : (0 : Int) < (J : Int) := by omega
                      have hJ1 : 0 < J := by omega
                      have hkL : (k : Int) < (k4 : Int) := by omega
                      have hkk : (0 : Int) ≤ (k : Int) := by omega
                      clear hJ
                      go_upto_region 17 with fail; clear c4
                      --R17P
                      refine wp_region_held_drew (S := fun u => (u.cell? ⟨M, 4, none⟩ = some (.slice (some (⟨b1, o1, none⟩ : Addr)) k4 y4)) ∧ (u.cell? ⟨b1, o1 + J * 2, none⟩ = some (.int .i64 xc) ∧ u.cell? ⟨b1, o1 + J * 2 + 1, none⟩ = some (.int .i64 xn)) ∧ u.cell? ⟨b1, o1 + k * 2, none⟩ = some (.int .i64 yc) ∧ u.cell? ⟨b1, o1 + k * 2 + 1, none⟩ = some (.int .i64 yn)) (by kernel_rfl) (⟨HXu.out _ HD.out, HCx.out _ HD.out, HCy.out _ HD.out⟩) (fun hHeld => ?_)
                      refine wpAnyH_take (i := 0) (oi := { dst := some 98, op := Op.fieldAddr 83 (Operand.tmp 1) 4, type := 0, pos := "ref.go:72", after := #[], guard := none }) (v := ?_) rfl (by kernel_rfl) (by kernel_rfl) (by kernel_rfl) (fun _ _ _ h => h) (Or.inl ⟨by rfl, ?_⟩) hHeld ?_
                      rotate_left 1
                      · intro W hSw
                        (try dsimp only at hSw)
                        go_simp
                        try with_reducible rfl
                      try simp only [Act.put, List.setIfInBounds_toArray, List.set_cons_zero, List.set_cons_succ]
                      refine wpAnyH_take (i := 1) (oi := { dst := some 99, op := Op.load 81 (Operand.tmp 98), type := 81, pos := "ref.go:72", after := #[{ on := 0, ground := Ground.data }], guard := none }) (v := ?_) rfl (by kernel_rfl) (by kernel_rfl) (by kernel_rfl) (fun _ _ _ h => h) (Or.inl ⟨by rfl, ?_⟩) hHeld ?_
                      rotate_left 1
                      · intro W hSw
                        (try dsimp only at hSw)
                        go_simp
                        try with_reducible rfl
                      try simp only [Act.put, List.setIfInBounds_toArray, List.set_cons_zero, List.set_cons_succ]
                      refine wpAnyH_take (i := 2) (oi := { dst := some 100, op := Op.move (Operand.tmp 6), type := 3, pos := "ref.go:72", after := #[], guard := none }) (v := ?_) rfl (by kernel_rfl) (by kernel_rfl) (by kernel_rfl) (fun _ _ _ h => h) (Or.inl ⟨by rfl, ?_⟩) hHeld ?_
                      rotate_left 1
                      · intro W hSw
                        (try dsimp only at hSw)
                        go_simp
                        try with_reducible rfl
                      try simp only [Act.put, List.setIfInBounds_toArray, List.set_cons_zero, List.set_cons_succ]
                      refine wpAnyH_take (i := 3) (oi := { dst := some 101, op := Op.indexAddr 81 (Operand.tmp 99) (Operand.tmp 100), type := 0, pos := "ref.go:72", after := #[{ on := 1, ground := Ground.data }, { on := 2, ground := Ground.data }], guard := none }) (v := ?_) rfl (by kernel_rfl) (by kernel_rfl) (by kernel_rfl) (fun _ _ _ h => h) (Or.inl ⟨by rfl, ?_⟩) hHeld ?_
                      rotate_left 1
                      · intro W hSw
                        (try dsimp only at hSw)
                        go_simp
                        try with_reducible rfl
                      try simp only [Act.put, List.setIfInBounds_toArray, List.set_cons_zero, List.set_cons_succ]
                      refine wpAnyH_take (i := 4) (oi := { dst := some 102, op := Op.load 136 (Operand.tmp 101), type := 136, pos := "ref.go:72", after := #[{ on := 3, ground := Ground.data }], guard := none }) (v := ?_) rfl (by kernel_rfl) (by kernel_rfl) (by kernel_rfl) (fun _ _ _ h => h) (Or.inl ⟨by rfl, ?_⟩) hHeld ?_
                      rotate_left 1
                      · intro W hSw
                        (try dsimp only at hSw)
                        go_simp
                        try with_reducible rfl
                      try simp only [Act.put, List.setIfInBounds_toArray, List.set_cons_zero, List.set_cons_succ]
                      refine wpAnyH_ready (rs := [5]) (by kernel_rfl) (by simp) ?_
                      refine AllReadyH.cons (o := { dst := some 103, op := Op.call { callee := Callee.value (Operand.func 79), args := #[Operand.tmp 102], argTypes := #[136] }, type := 4, pos := "ref.go:72", after := #[{ on := 4, ground := Ground.data }], guard := none }) rfl (fun K7 hK7 => ?_) ?_
                      · go_simp
                        refine (HBa.out _).mono ?_
                        rintro e w1 ⟨rfl, hb⟩
                        have HB1 : Hid (Below wr.heap.size wr w1) := Lib.hid (HD.out.trans (hb.mono HD.out.size))
                        clear hb
                        try dsimp only
                        refine hK7.out _ _ (⟨HXu.out _ HB1.out, HCx.out _ HB1.out, HCy.out _ HB1.out⟩) (fun hHeld => ?_)
                        clear hK7 K7
                        try simp only [Act.put, List.setIfInBounds_toArray, List.set_cons_zero, List.set_cons_succ]
                        refine wpAnyH_take (i := 6) (oi := { dst := some 104, op := Op.unOp UnOp.not 4 (Operand.tmp 103), type := 4, pos := "ref.go:72", after := #[{ on := 5, ground := Ground.data }], guard := none }) (v := ?_) rfl (by kernel_rfl) (by kernel_rfl) (by kernel_rfl) (fun _ _ _ h => h) (Or.inl ⟨by rfl, ?_⟩) hHeld ?_
                        rotate_left 1
                        · intro W hSw
                          (try dsimp only at hSw)
                          go_simp
                          try with_reducible rfl
                        try simp only [Act.put, List.setIfInBounds_toArray, List.set_cons_zero, List.set_cons_succ]
                        refine wpAnyH_take (i := 7) (oi := { dst := some 105, op := Op.move (Operand.tmp 104), type := 4, pos := "ref.go:72", after := #[{ on := 6, ground := Ground.data }, { on := 5, ground := Ground.chain }], guard := none }) (v := ?_) rfl (by kernel_rfl) (by kernel_rfl) (by kernel_rfl) (fun _ _ _ h => h) (Or.inl ⟨by rfl, ?_⟩) hHeld ?_
                        rotate_left 1
                        · intro W hSw
                          (try dsimp only at hSw)
                          go_simp
                          try with_reducible rfl
                        try simp only [Act.put, List.setIfInBounds_toArray, List.set_cons_zero, List.set_cons_succ]
                        refine wpAnyH_take (i := 8) (oi := { dst := some 106, op := Op.move (Operand.tmp 6), type := 3, pos := "ref.go:72", after := #[{ on := 7, ground := Ground.guard }], guard := some (7, false) }) (v := ?_) rfl (by kernel_rfl) (by kernel_rfl) (by kernel_rfl) (fun _ _ _ h => h) (Or.inl ⟨by rfl, ?_⟩) hHeld ?_
                        rotate_left 1
                        · intro W hSw
                          (try dsimp only at hSw)
                          go_simp
                          try with_reducible rfl
                        try simp only [Act.put, List.setIfInBounds_toArray, List.set_cons_zero, List.set_cons_succ]
                        refine wpAnyH_take (i := 9) (oi := { dst := some 107, op := Op.binOp BinOp.gtr 3 (Operand.tmp 106) (Operand.const (Value.int IntKind.i64 0)) 3, type := 4, pos := "ref.go:72", after := #[{ on := 8, ground := Ground.data }, { on := 7, ground := Ground.guard }], guard := some (7, false) }) (v := ?_) rfl (by kernel_rfl) (by kernel_rfl) (by kernel_rfl) (fun _ _ _ h => h) (Or.inl ⟨by rfl, ?_⟩) hHeld ?_
                        rotate_left 1
                        · intro W hSw
                          (try dsimp only at hSw)
                          go_simp
                          try with_reducible rfl
                        try simp only [Act.put, List.setIfInBounds_toArray, List.set_cons_zero, List.set_cons_succ]
                        refine wpAnyH_take (i := 10) (oi := { dst := some 108, op := Op.move (Operand.tmp 107), type := 4, pos := "ref.go:72", after := #[{ on := 9, ground := Ground.data }, { on := 7, ground := Ground.chain }, { on := 7, ground := Ground.guard }], guard := some (7, false) }) (v := ?_) rfl (by kernel_rfl) (by kernel_rfl) (by kernel_rfl) (fun _ _ _ h => h) (Or.inl ⟨by rfl, ?_⟩) hHeld ?_
                        rotate_left 1
                        · intro W hSw
                          (try dsimp only at hSw)
                          go_simp
                          try with_reducible rfl
                        try simp only [Act.put, List.setIfInBounds_toArray, List.set_cons_zero, List.set_cons_succ]
                        refine wpAnyH_take (i := 11) (oi := { dst := some 109, op := Op.fieldAddr 83 (Operand.tmp 1) 4, type := 0, pos := "ref.go:72", after := #[{ on := 10, ground := Ground.guard }], guard := some (10, true) }) (v := ?_) rfl (by kernel_rfl) (by kernel_rfl) (by kernel_rfl) (fun _ _ _ h => h) (Or.inl ⟨by rfl, ?_⟩) hHeld ?_
                        rotate_left 1
                        · intro W hSw
                          (try dsimp only at hSw)
                          go_simp
                          try with_reducible rfl
                        try simp only [Act.put, List.setIfInBounds_toArray, List.set_cons_zero, List.set_cons_succ]
                        refine wpAnyH_take (i := 12) (oi := { dst := some 110, op := Op.load 81 (Operand.tmp 109), type := 81, pos := "ref.go:72", after := #[{ on := 11, ground := Ground.data }, { on := 10, ground := Ground.guard }], guard := some (10, true) }) (v := ?_) rfl (by kernel_rfl) (by kernel_rfl) (by kernel_rfl) (fun _ _ _ h => h) (Or.inl ⟨by rfl, ?_⟩) hHeld ?_
                        rotate_left 1
                        · intro W hSw
                          (try dsimp only at hSw)
                          go_simp
                          try with_reducible rfl
                        try simp only [Act.put, List.setIfInBounds_toArray, List.set_cons_zero, List.set_cons_succ]
                        refine wpAnyH_take (i := 13) (oi := { dst := some 111, op := Op.move (Operand.tmp 6), type := 3, pos := "ref.go:72", after := #[{ on := 10, ground := Ground.guard }], guard := some (10, true) }) (v := ?_) rfl (by kernel_rfl) (by kernel_rfl) (by kernel_rfl) (fun _ _ _ h => h) (Or.inl ⟨by rfl, ?_⟩) hHeld ?_
                        rotate_left 1
                        · intro W hSw
                          (try dsimp only at hSw)
                          go_simp
                          try with_reducible rfl
                        try simp only [Act.put, List.setIfInBounds_toArray, List.set_cons_zero, List.set_cons_succ]
                        refine wpAnyH_take (i := 14) (oi := { dst := some 112, op := Op.binOp BinOp.sub 3 (Operand.tmp 111) (Operand.const (Value.int IntKind.i64 1)) 3, type := 3, pos := "ref.go:72", after := #[{ on := 13, ground := Ground.data }, { on := 10, ground := Ground.guard }], guard := some (10, true) }) (v := ?_) rfl (by kernel_rfl) (by kernel_rfl) (by kernel_rfl) (fun _ _ _ h => h) (Or.inl ⟨by rfl, ?_⟩) hHeld ?_
                        rotate_left 1
                        · intro W hSw
                          (try dsimp only at hSw)
                          go_simp
                          try with_reducible rfl
                        try simp only [Act.put, List.setIfInBounds_toArray, List.set_cons_zero, List.set_cons_succ]
                        refine wpAnyH_take (i := 15) (oi := { dst := some 113, op := Op.indexAddr 81 (Operand.tmp 110) (Operand.tmp 112), type := 0, pos := "ref.go:72", after := #[{ on := 12, ground := Ground.data }, { on := 14, ground := Ground.data }, { on := 10, ground := Ground.guard }], guard := some (10, true) }) (v := ?_) rfl (by kernel_rfl) (by kernel_rfl) (by kernel_rfl) (fun _ _ _ h => h) (Or.inl ⟨by rfl, ?_⟩) hHeld ?_
                        rotate_left 1
                        · intro W hSw
                          (try dsimp only at hSw)
                          go_simp
                          try with_reducible rfl
                        try simp only [Act.put, List.setIfInBounds_toArray, List.set_cons_zero, List.set_cons_succ]
                        refine wpAnyH_take (i := 16) (oi := { dst := some 114, op := Op.load 136 (Operand.tmp 113), type := 136, pos := "ref.go:72", after := #[{ on := 15, ground := Ground.data }, { on := 10, ground := Ground.guard }], guard := some (10, true) }) (v := ?_) rfl (by kernel_rfl) (by kernel_rfl) (by kernel_rfl) (fun _ _ _ h => h) (Or.inl ⟨by rfl, ?_⟩) hHeld ?_
                        rotate_left 1
                        · intro W hSw
                          (try dsimp only at hSw)
                          go_simp
                          try with_reducible rfl
                        try simp only [Act.put, List.setIfInBounds_toArray, List.set_cons_zero, List.set_cons_succ]
                        refine wpAnyH_take (i := 17) (oi := { dst := some 115, op := Op.fieldAddr 83 (Operand.tmp 1) 4, type := 0, pos := "ref.go:72", after := #[{ on := 10, ground := Ground.guard }], guard := some (10, true) }) (v := ?_) rfl (by kernel_rfl) (by kernel_rfl) (by kernel_rfl) (fun _ _ _ h => h) (Or.inl ⟨by rfl, ?_⟩) hHeld ?_
                        rotate_left 1
                        · intro W hSw
                          (try dsimp only at hSw)
                          go_simp
                          try with_reducible rfl
                        try simp only [Act.put, List.setIfInBounds_toArray, List.set_cons_zero, List.set_cons_succ]
                        refine wpAnyH_take (i := 18) (oi := { dst := some 116, op := Op.load 81 (Operand.tmp 115), type := 81, pos := "ref.go:72", after := #[{ on := 17, ground := Ground.data }, { on := 10, ground := Ground.guard }], guard := some (10, true) }) (v := ?_) rfl (by kernel_rfl) (by kernel_rfl) (by kernel_rfl) (fun _ _ _ h => h) (Or.inl ⟨by rfl, ?_⟩) hHeld ?_
                        rotate_left 1
                        · intro W hSw
                          (try dsimp only at hSw)
                          go_simp
                          try with_reducible rfl
                        try simp only [Act.put, List.setIfInBounds_toArray, List.set_cons_zero, List.set_cons_succ]
                        refine wpAnyH_take (i := 19) (oi := { dst := some 117, op := Op.move (Operand.tmp 6), type := 3, pos := "ref.go:72", after := #[{ on := 10, ground := Ground.guard }], guard := some (10, true) }) (v := ?_) rfl (by kernel_rfl) (by kernel_rfl) (by kernel_rfl) (fun _ _ _ h => h) (Or.inl ⟨by rfl, ?_⟩) hHeld ?_
                        rotate_left 1
                        · intro W hSw
                          (try dsimp only at hSw)
                          go_simp
                          try with_reducible rfl
                        try simp only [Act.put, List.setIfInBounds_toArray, List.set_cons_zero, List.set_cons_succ]
                        refine wpAnyH_take (i := 20) (oi := { dst := some 118, op := Op.indexAddr 81 (Operand.tmp 116) (Operand.tmp 117), type := 0, pos := "ref.go:72", after := #[{ on := 18, ground := Ground.data }, { on := 19, ground := Ground.data }, { on := 10, ground := Ground.guard }], guard := some (10, true) }) (v := ?_) rfl (by kernel_rfl) (by kernel_rfl) (by kernel_rfl) (fun _ _ _ h => h) (Or.inl ⟨by rfl, ?_⟩) hHeld ?_
                        rotate_left 1
                        · intro W hSw
                          (try dsimp only at hSw)
                          go_simp
                          try with_reducible rfl
                        try simp only [Act.put, List.setIfInBounds_toArray, List.set_cons_zero, List.set_cons_succ]
                        refine wpAnyH_take (i := 21) (oi := { dst := some 119, op := Op.load 136 (Operand.tmp 118), type := 136, pos := "ref.go:72", after := #[{ on := 20, ground := Ground.data }, { on := 10, ground := Ground.guard }], guard := some (10, true) }) (v := ?_) rfl (by kernel_rfl) (by kernel_rfl) (by kernel_rfl) (fun _ _ _ h => h) (Or.inl ⟨by rfl, ?_⟩) hHeld ?_
                        rotate_left 1
                        · intro W hSw
                          (try dsimp only at hSw)
                          go_simp
                          try with_reducible rfl
                        try simp only [Act.put, List.setIfInBounds_toArray, List.set_cons_zero, List.set_cons_succ]
                        refine wpAnyH_ready (rs := [22]) (by kernel_rfl) (by simp) ?_
                        refine AllReadyH.cons (o := { dst := some 120, op := Op.call { callee := Callee.value (Operand.func 80), args := #[Operand.tmp 114, Operand.tmp 119], argTypes := #[136, 136] }, type := 4, pos := "ref.go:72", after := #[{ on := 16, ground := Ground.data }, { on := 21, ground := Ground.data }, { on := 10, ground := Ground.chain }, { on := 10, ground := Ground.guard }], guard := some (10, true) }) rfl (fun K7 hK7 => ?_) ?_
                        · go_simp
                          refine (HBe.out _).mono ?_
                          rintro e w2 ⟨rfl, hb⟩
                          have HB2 : Hid (Below wr.heap.size wr w2) := Lib.hid (HB1.out.trans (hb.mono HB1.out.size))
                          clear hb
                          try dsimp only
                          refine hK7.out _ _ (⟨HXu.out _ HB2.out, HCx.out _ HB2.out, HCy.out _ HB2.out⟩) (fun hHeld => ?_)
                          clear hK7 K7
                          try simp only [Act.put, List.setIfInBounds_toArray, List.set_cons_zero, List.set_cons_succ]
                          refine wpAnyH_take (i := 23) (oi := { dst := some 121, op := Op.unOp UnOp.not 4 (Operand.tmp 120), type := 4, pos := "ref.go:72", after := #[{ on := 22, ground := Ground.data }, { on := 10, ground := Ground.guard }], guard := some (10, true) }) (v := ?_) rfl (by kernel_rfl) (by kernel_rfl) (by kernel_rfl) (fun _ _ _ h => h) (Or.inl ⟨by rfl, ?_⟩) hHeld ?_
                          rotate_left 1
                          · intro W hSw
                            (try dsimp only at hSw)
                            go_simp
                            try with_reducible rfl
                          try simp only [Act.put, List.setIfInBounds_toArray, List.set_cons_zero, List.set_cons_succ]
                          refine wpAnyH_take (i := 24) (oi := { dst := some 122, op := Op.pick (Operand.tmp 108) (Operand.tmp 121) (Operand.const (Value.bool false)), type := 4, pos := "ref.go:72", after := #[{ on := 10, ground := Ground.data }, { on := 23, ground := Ground.data }, { on := 7, ground := Ground.guard }], guard := some (7, false) }) (v := ?_) rfl (by kernel_rfl) (by kernel_rfl) (by kernel_rfl) (fun _ _ _ h => h) (Or.inl ⟨by rfl, ?_⟩) hHeld ?_
                          rotate_left 1
                          · intro W hSw
                            (try dsimp only at hSw)
                            go_simp
                            try with_reducible rfl
                          try simp only [Act.put, List.setIfInBounds_toArray, List.set_cons_zero, List.set_cons_succ]
                          refine wpAnyH_take (i := 25) (oi := { dst := some 123, op := Op.pick (Operand.tmp 105) (Operand.const (Value.bool true)) (Operand.tmp 122), type := 4, pos := "ref.go:72", after := #[{ on := 7, ground := Ground.data }, { on := 24, ground := Ground.data }], guard := none }) (v := ?_) rfl (by kernel_rfl) (by kernel_rfl) (by kernel_rfl) (fun _ _ _ h => h) (Or.inl ⟨by rfl, ?_⟩) hHeld ?_
                          rotate_left 1
                          · intro W hSw
                            (try dsimp only at hSw)
                            go_simp
                            try with_reducible rfl
                          try simp only [Act.put, List.setIfInBounds_toArray, List.set_cons_zero, List.set_cons_succ]
                          refine wpAnyH_done (by kernel_rfl) ?_ _
                          have HB9 := Lib.hid (HBr.out.trans (HB2.out.mono HBr.out.size))
                          clear hHeld
                          clear hkw
                          go_wp2
                          go_roundw
                          case rel => exact ⟨J + 1, by omega, by go_num, HN4, HB9.out⟩
                          case measure => simp [intOf]; omega
                        exact AllReadyH.nil
                      exact AllReadyH.nil
                      --R17PE
                    | false =>
                      have HRf := Lib.hid (HBaS.out (k + 1 + 1) (by omega) HS2.out)
                      obtain ⟨J, hJ⟩ : ∃ J, k + 1 = J := ⟨_, rfl⟩
                      have HJ := Lib.hid hJ
                      rw [hJ] at hlt hlt' hk0 HCx ⊢
                      have hkw : True → IntKind.i64.wrap ((J : Int) - 1) = (k : Int) := fun _ => by rw [← HJ.out, IntKind.wrap_i64]; omega
                      have hJ0 : (0 : Int) < (J : Int) := by omega
                      have hJ1 : 0 < J := by omega
                      have hkL : (k : Int) < (k4 : Int) := by omega
                      have hkk : (0 : Int) ≤ (k : Int) := by omega
                      clear hJ
                      go_upto_region 17 with fail; clear c4
                      --R17Q
                      refine wp_region_held_drew (S := fun u => (u.cell? ⟨M, 4, none⟩ = some (.slice (some (⟨b1, o1, none⟩ : Addr)) k4 y4)) ∧ (u.cell? ⟨b1, o1 + J * 2, none⟩ = some (.int .i64 xc) ∧ u.cell? ⟨b1, o1 + J * 2 + 1, none⟩ = some (.int .i64 xn)) ∧ u.cell? ⟨b1, o1 + k * 2, none⟩ = some (.int .i64 yc) ∧ u.cell? ⟨b1, o1 + k * 2 + 1, none⟩ = some (.int .i64 yn)) (by kernel_rfl) (⟨HXu.out _ HD.out, HCx.out _ HD.out, HCy.out _ HD.out⟩) (fun hHeld => ?_)
                      refine wpAnyH_take (i := 0) (oi := { dst := some 98, op := Op.fieldAddr 83 (Operand.tmp 1) 4, type := 0, pos := "ref.go:72", after := #[], guard := none }) (v := ?_) rfl (by kernel_rfl) (by kernel_rfl) (by kernel_rfl) (fun _ _ _ h => h) (Or.inl ⟨by rfl, ?_⟩) hHeld ?_
                      rotate_left 1
                      · intro W hSw
                        (try dsimp only at hSw)
                        go_simp
                        try with_reducible rfl
                      try simp only [Act.put, List.setIfInBounds_toArray, List.set_cons_zero, List.set_cons_succ]
                      refine wpAnyH_take (i := 1) (oi := { dst := some 99, op := Op.load 81 (Operand.tmp 98), type := 81, pos := "ref.go:72", after := #[{ on := 0, ground := Ground.data }], guard := none }) (v := ?_) rfl (by kernel_rfl) (by kernel_rfl) (by kernel_rfl) (fun _ _ _ h => h) (Or.inl ⟨by rfl, ?_⟩) hHeld ?_
                      rotate_left 1
                      · intro W hSw
                        (try dsimp only at hSw)
                        go_simp
                        try with_reducible rfl
                      try simp only [Act.put, List.setIfInBounds_toArray, List.set_cons_zero, List.set_cons_succ]
                      refine wpAnyH_take (i := 2) (oi := { dst := some 100, op := Op.move (Operand.tmp 6), type := 3, pos := "ref.go:72", after := #[], guard := none }) (v := ?_) rfl (by kernel_rfl) (by kernel_rfl) (by kernel_rfl) (fun _ _ _ h => h) (Or.inl ⟨by rfl, ?_⟩) hHeld ?_
                      rotate_left 1
                      · intro W hSw
                        (try dsimp only at hSw)
                        go_simp
                        try with_reducible rfl
                      try simp only [Act.put, List.setIfInBounds_toArray, List.set_cons_zero, List.set_cons_succ]
                      refine wpAnyH_take (i := 3) (oi := { dst := some 101, op := Op.indexAddr 81 (Operand.tmp 99) (Operand.tmp 100), type := 0, pos := "ref.go:72", after := #[{ on := 1, ground := Ground.data }, { on := 2, ground := Ground.data }], guard := none }) (v := ?_) rfl (by kernel_rfl) (by kernel_rfl) (by kernel_rfl) (fun _ _ _ h => h) (Or.inl ⟨by rfl, ?_⟩) hHeld ?_
                      rotate_left 1
                      · intro W hSw
                        (try dsimp only at hSw)
                        go_simp
                        try with_reducible rfl
                      try simp only [Act.put, List.setIfInBounds_toArray, List.set_cons_zero, List.set_cons_succ]
                      refine wpAnyH_take (i := 4) (oi := { dst := some 102, op := Op.load 136 (Operand.tmp 101), type := 136, pos := "ref.go:72", after := #[{ on := 3, ground := Ground.data }], guard := none }) (v := ?_) rfl (by kernel_rfl) (by kernel_rfl) (by kernel_rfl) (fun _ _ _ h => h) (Or.inl ⟨by rfl, ?_⟩) hHeld ?_
                      rotate_left 1
                      · intro W hSw
                        (try dsimp only at hSw)
                        go_simp
                        try with_reducible rfl
                      try simp only [Act.put, List.setIfInBounds_toArray, List.set_cons_zero, List.set_cons_succ]
                      refine wpAnyH_ready (rs := [5]) (by kernel_rfl) (by simp) ?_
                      refine AllReadyH.cons (o := { dst := some 103, op := Op.call { callee := Callee.value (Operand.func 79), args := #[Operand.tmp 102], argTypes := #[136] }, type := 4, pos := "ref.go:72", after := #[{ on := 4, ground := Ground.data }], guard := none }) rfl (fun K7 hK7 => ?_) ?_
                      · go_simp
                        refine (HBa.out _).mono ?_
                        rintro e w1 ⟨rfl, hb⟩
                        have HB1 : Hid (Below wr.heap.size wr w1) := Lib.hid (HD.out.trans (hb.mono HD.out.size))
                        clear hb
                        try dsimp only
                        refine hK7.out _ _ (⟨HXu.out _ HB1.out, HCx.out _ HB1.out, HCy.out _ HB1.out⟩) (fun hHeld => ?_)
                        clear hK7 K7
                        try simp only [Act.put, List.setIfInBounds_toArray, List.set_cons_zero, List.set_cons_succ]
                        refine wpAnyH_take (i := 6) (oi := { dst := some 104, op := Op.unOp UnOp.not 4 (Operand.tmp 103), type := 4, pos := "ref.go:72", after := #[{ on := 5, ground := Ground.data }], guard := none }) (v := ?_) rfl (by kernel_rfl) (by kernel_rfl) (by kernel_rfl) (fun _ _ _ h => h) (Or.inl ⟨by rfl, ?_⟩) hHeld ?_
                        rotate_left 1
                        · intro W hSw
                          (try dsimp only at hSw)
                          go_simp
                          try with_reducible rfl
                        try simp only [Act.put, List.setIfInBounds_toArray, List.set_cons_zero, List.set_cons_succ]
                        refine wpAnyH_take (i := 7) (oi := { dst := some 105, op := Op.move (Operand.tmp 104), type := 4, pos := "ref.go:72", after := #[{ on := 6, ground := Ground.data }, { on := 5, ground := Ground.chain }], guard := none }) (v := ?_) rfl (by kernel_rfl) (by kernel_rfl) (by kernel_rfl) (fun _ _ _ h => h) (Or.inl ⟨by rfl, ?_⟩) hHeld ?_
                        rotate_left 1
                        · intro W hSw
                          (try dsimp only at hSw)
                          go_simp
                          try with_reducible rfl
                        try simp only [Act.put, List.setIfInBounds_toArray, List.set_cons_zero, List.set_cons_succ]
                        refine wpAnyH_take (i := 8) (oi := { dst := some 106, op := Op.move (Operand.tmp 6), type := 3, pos := "ref.go:72", after := #[{ on := 7, ground := Ground.guard }], guard := some (7, false) }) (v := ?_) rfl (by kernel_rfl) (by kernel_rfl) (by kernel_rfl) (fun _ _ _ h => h) (Or.inl ⟨by rfl, ?_⟩) hHeld ?_
                        rotate_left 1
                        · intro W hSw
                          (try dsimp only at hSw)
                          go_simp
                          try with_reducible rfl
                        try simp only [Act.put, List.setIfInBounds_toArray, List.set_cons_zero, List.set_cons_succ]
                        refine wpAnyH_take (i := 9) (oi := { dst := some 107, op := Op.binOp BinOp.gtr 3 (Operand.tmp 106) (Operand.const (Value.int IntKind.i64 0)) 3, type := 4, pos := "ref.go:72", after := #[{ on := 8, ground := Ground.data }, { on := 7, ground := Ground.guard }], guard := some (7, false) }) (v := ?_) rfl (by kernel_rfl) (by kernel_rfl) (by kernel_rfl) (fun _ _ _ h => h) (Or.inl ⟨by rfl, ?_⟩) hHeld ?_
                        rotate_left 1
                        · intro W hSw
                          (try dsimp only at hSw)
                          go_simp
                          try with_reducible rfl
                        try simp only [Act.put, List.setIfInBounds_toArray, List.set_cons_zero, List.set_cons_succ]
                        refine wpAnyH_take (i := 10) (oi := { dst := some 108, op := Op.move (Operand.tmp 107), type := 4, pos := "ref.go:72", after := #[{ on := 9, ground := Ground.data }, { on := 7, ground := Ground.chain }, { on := 7, ground := Ground.guard }], guard := some (7, false) }) (v := ?_) rfl (by kernel_rfl) (by kernel_rfl) (by kernel_rfl) (fun _ _ _ h => h) (Or.inl ⟨by rfl, ?_⟩) hHeld ?_
                        rotate_left 1
                        · intro W hSw
                          (try dsimp only at hSw)
                          go_simp
                          try with_reducible rfl
                        try simp only [Act.put, List.setIfInBounds_toArray, List.set_cons_zero, List.set_cons_succ]
                        refine wpAnyH_take (i := 11) (oi := { dst := some 109, op := Op.fieldAddr 83 (Operand.tmp 1) 4, type := 0, pos := "ref.go:72", after := #[{ on := 10, ground := Ground.guard }], guard := some (10, true) }) (v := ?_) rfl (by kernel_rfl) (by kernel_rfl) (by kernel_rfl) (fun _ _ _ h => h) (Or.inl ⟨by rfl, ?_⟩) hHeld ?_
                        rotate_left 1
                        · intro W hSw
                          (try dsimp only at hSw)
                          go_simp
                          try with_reducible rfl
                        try simp only [Act.put, List.setIfInBounds_toArray, List.set_cons_zero, List.set_cons_succ]
                        refine wpAnyH_take (i := 12) (oi := { dst := some 110, op := Op.load 81 (Operand.tmp 109), type := 81, pos := "ref.go:72", after := #[{ on := 11, ground := Ground.data }, { on := 10, ground := Ground.guard }], guard := some (10, true) }) (v := ?_) rfl (by kernel_rfl) (by kernel_rfl) (by kernel_rfl) (fun _ _ _ h => h) (Or.inl ⟨by rfl, ?_⟩) hHeld ?_
                        rotate_left 1
                        · intro W hSw
                          (try dsimp only at hSw)
                          go_simp
                          try with_reducible rfl
                        try simp only [Act.put, List.setIfInBounds_toArray, List.set_cons_zero, List.set_cons_succ]
                        refine wpAnyH_take (i := 13) (oi := { dst := some 111, op := Op.move (Operand.tmp 6), type := 3, pos := "ref.go:72", after := #[{ on := 10, ground := Ground.guard }], guard := some (10, true) }) (v := ?_) rfl (by kernel_rfl) (by kernel_rfl) (by kernel_rfl) (fun _ _ _ h => h) (Or.inl ⟨by rfl, ?_⟩) hHeld ?_
                        rotate_left 1
                        · intro W hSw
                          (try dsimp only at hSw)
                          go_simp
                          try with_reducible rfl
                        try simp only [Act.put, List.setIfInBounds_toArray, List.set_cons_zero, List.set_cons_succ]
                        refine wpAnyH_take (i := 14) (oi := { dst := some 112, op := Op.binOp BinOp.sub 3 (Operand.tmp 111) (Operand.const (Value.int IntKind.i64 1)) 3, type := 3, pos := "ref.go:72", after := #[{ on := 13, ground := Ground.data }, { on := 10, ground := Ground.guard }], guard := some (10, true) }) (v := ?_) rfl (by kernel_rfl) (by kernel_rfl) (by kernel_rfl) (fun _ _ _ h => h) (Or.inl ⟨by rfl, ?_⟩) hHeld ?_
                        rotate_left 1
                        · intro W hSw
                          (try dsimp only at hSw)
                          go_simp
                          try with_reducible rfl
                        try simp only [Act.put, List.setIfInBounds_toArray, List.set_cons_zero, List.set_cons_succ]
                        refine wpAnyH_take (i := 15) (oi := { dst := some 113, op := Op.indexAddr 81 (Operand.tmp 110) (Operand.tmp 112), type := 0, pos := "ref.go:72", after := #[{ on := 12, ground := Ground.data }, { on := 14, ground := Ground.data }, { on := 10, ground := Ground.guard }], guard := some (10, true) }) (v := ?_) rfl (by kernel_rfl) (by kernel_rfl) (by kernel_rfl) (fun _ _ _ h => h) (Or.inl ⟨by rfl, ?_⟩) hHeld ?_
                        rotate_left 1
                        · intro W hSw
                          (try dsimp only at hSw)
                          go_simp
                          try with_reducible rfl
                        try simp only [Act.put, List.setIfInBounds_toArray, List.set_cons_zero, List.set_cons_succ]
                        refine wpAnyH_take (i := 16) (oi := { dst := some 114, op := Op.load 136 (Operand.tmp 113), type := 136, pos := "ref.go:72", after := #[{ on := 15, ground := Ground.data }, { on := 10, ground := Ground.guard }], guard := some (10, true) }) (v := ?_) rfl (by kernel_rfl) (by kernel_rfl) (by kernel_rfl) (fun _ _ _ h => h) (Or.inl ⟨by rfl, ?_⟩) hHeld ?_
                        rotate_left 1
                        · intro W hSw
                          (try dsimp only at hSw)
                          go_simp
                          try with_reducible rfl
                        try simp only [Act.put, List.setIfInBounds_toArray, List.set_cons_zero, List.set_cons_succ]
                        refine wpAnyH_take (i := 17) (oi := { dst := some 115, op := Op.fieldAddr 83 (Operand.tmp 1) 4, type := 0, pos := "ref.go:72", after := #[{ on := 10, ground := Ground.guard }], guard := some (10, true) }) (v := ?_) rfl (by kernel_rfl) (by kernel_rfl) (by kernel_rfl) (fun _ _ _ h => h) (Or.inl ⟨by rfl, ?_⟩) hHeld ?_
                        rotate_left 1
                        · intro W hSw
                          (try dsimp only at hSw)
                          go_simp
                          try with_reducible rfl
                        try simp only [Act.put, List.setIfInBounds_toArray, List.set_cons_zero, List.set_cons_succ]
                        refine wpAnyH_take (i := 18) (oi := { dst := some 116, op := Op.load 81 (Operand.tmp 115), type := 81, pos := "ref.go:72", after := #[{ on := 17, ground := Ground.data }, { on := 10, ground := Ground.guard }], guard := some (10, true) }) (v := ?_) rfl (by kernel_rfl) (by kernel_rfl) (by kernel_rfl) (fun _ _ _ h => h) (Or.inl ⟨by rfl, ?_⟩) hHeld ?_
                        rotate_left 1
                        · intro W hSw
                          (try dsimp only at hSw)
                          go_simp
                          try with_reducible rfl
                        try simp only [Act.put, List.setIfInBounds_toArray, List.set_cons_zero, List.set_cons_succ]
                        refine wpAnyH_take (i := 19) (oi := { dst := some 117, op := Op.move (Operand.tmp 6), type := 3, pos := "ref.go:72", after := #[{ on := 10, ground := Ground.guard }], guard := some (10, true) }) (v := ?_) rfl (by kernel_rfl) (by kernel_rfl) (by kernel_rfl) (fun _ _ _ h => h) (Or.inl ⟨by rfl, ?_⟩) hHeld ?_
                        rotate_left 1
                        · intro W hSw
                          (try dsimp only at hSw)
                          go_simp
                          try with_reducible rfl
                        try simp only [Act.put, List.setIfInBounds_toArray, List.set_cons_zero, List.set_cons_succ]
                        refine wpAnyH_take (i := 20) (oi := { dst := some 118, op := Op.indexAddr 81 (Operand.tmp 116) (Operand.tmp 117), type := 0, pos := "ref.go:72", after := #[{ on := 18, ground := Ground.data }, { on := 19, ground := Ground.data }, { on := 10, ground := Ground.guard }], guard := some (10, true) }) (v := ?_) rfl (by kernel_rfl) (by kernel_rfl) (by kernel_rfl) (fun _ _ _ h => h) (Or.inl ⟨by rfl, ?_⟩) hHeld ?_
                        rotate_left 1
                        · intro W hSw
                          (try dsimp only at hSw)
                          go_simp
                          try with_reducible rfl
                        try simp only [Act.put, List.setIfInBounds_toArray, List.set_cons_zero, List.set_cons_succ]
                        refine wpAnyH_take (i := 21) (oi := { dst := some 119, op := Op.load 136 (Operand.tmp 118), type := 136, pos := "ref.go:72", after := #[{ on := 20, ground := Ground.data }, { on := 10, ground := Ground.guard }], guard := some (10, true) }) (v := ?_) rfl (by kernel_rfl) (by kernel_rfl) (by kernel_rfl) (fun _ _ _ h => h) (Or.inl ⟨by rfl, ?_⟩) hHeld ?_
                        rotate_left 1
                        · intro W hSw
                          (try dsimp only at hSw)
                          go_simp
                          try with_reducible rfl
                        try simp only [Act.put, List.setIfInBounds_toArray, List.set_cons_zero, List.set_cons_succ]
                        refine wpAnyH_ready (rs := [22]) (by kernel_rfl) (by simp) ?_
                        refine AllReadyH.cons (o := { dst := some 120, op := Op.call { callee := Callee.value (Operand.func 80), args := #[Operand.tmp 114, Operand.tmp 119], argTypes := #[136, 136] }, type := 4, pos := "ref.go:72", after := #[{ on := 16, ground := Ground.data }, { on := 21, ground := Ground.data }, { on := 10, ground := Ground.chain }, { on := 10, ground := Ground.guard }], guard := some (10, true) }) rfl (fun K7 hK7 => ?_) ?_
                        · go_simp
                          refine (HBe.out _).mono ?_
                          rintro e w2 ⟨rfl, hb⟩
                          have HB2 : Hid (Below wr.heap.size wr w2) := Lib.hid (HB1.out.trans (hb.mono HB1.out.size))
                          clear hb
                          try dsimp only
                          refine hK7.out _ _ (⟨HXu.out _ HB2.out, HCx.out _ HB2.out, HCy.out _ HB2.out⟩) (fun hHeld => ?_)
                          clear hK7 K7
                          try simp only [Act.put, List.setIfInBounds_toArray, List.set_cons_zero, List.set_cons_succ]
                          refine wpAnyH_take (i := 23) (oi := { dst := some 121, op := Op.unOp UnOp.not 4 (Operand.tmp 120), type := 4, pos := "ref.go:72", after := #[{ on := 22, ground := Ground.data }, { on := 10, ground := Ground.guard }], guard := some (10, true) }) (v := ?_) rfl (by kernel_rfl) (by kernel_rfl) (by kernel_rfl) (fun _ _ _ h => h) (Or.inl ⟨by rfl, ?_⟩) hHeld ?_
                          rotate_left 1
                          · intro W hSw
                            (try dsimp only at hSw)
                            go_simp
                            try with_reducible rfl
                          try simp only [Act.put, List.setIfInBounds_toArray, List.set_cons_zero, List.set_cons_succ]
                          refine wpAnyH_take (i := 24) (oi := { dst := some 122, op := Op.pick (Operand.tmp 108) (Operand.tmp 121) (Operand.const (Value.bool false)), type := 4, pos := "ref.go:72", after := #[{ on := 10, ground := Ground.data }, { on := 23, ground := Ground.data }, { on := 7, ground := Ground.guard }], guard := some (7, false) }) (v := ?_) rfl (by kernel_rfl) (by kernel_rfl) (by kernel_rfl) (fun _ _ _ h => h) (Or.inl ⟨by rfl, ?_⟩) hHeld ?_
                          rotate_left 1
                          · intro W hSw
                            (try dsimp only at hSw)
                            go_simp
                            try with_reducible rfl
                          try simp only [Act.put, List.setIfInBounds_toArray, List.set_cons_zero, List.set_cons_succ]
                          refine wpAnyH_take (i := 25) (oi := { dst := some 123, op := Op.pick (Operand.tmp 105) (Operand.const (Value.bool true)) (Operand.tmp 122), type := 4, pos := "ref.go:72", after := #[{ on := 7, ground := Ground.data }, { on := 24, ground := Ground.data }], guard := none }) (v := ?_) rfl (by kernel_rfl) (by kernel_rfl) (by kernel_rfl) (fun _ _ _ h => h) (Or.inl ⟨by rfl, ?_⟩) hHeld ?_
                          rotate_left 1
                          · intro W hSw
                            (try dsimp only at hSw)
                            go_simp
                            try with_reducible rfl
                          try simp only [Act.put, List.setIfInBounds_toArray, List.set_cons_zero, List.set_cons_succ]
                          refine wpAnyH_done (by kernel_rfl) ?_ _
                          have HB9 := Lib.hid (HBr.out.trans (HB2.out.mono HBr.out.size))
                          clear hHeld
                          go_wp2
                          go_ret
                          exact ⟨by rw [HRf.out]; rfl, HBw2.out _ HB9.out⟩
                        exact AllReadyH.nil
                      exact AllReadyH.nil
                      --R17QE
              · have hlt' : ¬ ((k : Int) < k4) := by omega
                have hBs : okBans m.bans = true := by
                  have h5 : m.bans.length = k := by have := HK4.out; omega
                  have h6 := HN3.out
                  have h7 := HK4.out
                  unfold okBans
                  rw [h5, h6, Bool.true_and, decide_eq_true_eq]
                  omega
                have hEp : 0 ≤ m.epoch ∧ m.epoch ≤ 4096 := by
                  have h5 := HTe.out
                  unfold inR at h5
                  rw [HEm.out]
                  simp only [Bool.and_eq_true, decide_eq_true_eq] at h5
                  exact h5
                have HRt : Hid (R = true) := Lib.hid (HT.out ⟨hEp, HTh.out, ⟨HTk.out, HOs.out⟩, HPs.out, hBs⟩)
                clear hBs hEp hbw
                go_wp2
                go_ret
                exact ⟨by rw [HRt.out]; rfl, HBw2.out _ HBr.out⟩
  all_goals
    have HR := Lib.hid hr
    clear hr
    obtain ⟨c0, c1, c2, c3, c4⟩ := HX.out.cells
    go_wp2_with (first
      | (go_at_call 76; refine (HHo.out _ HB.out).mono ?_; rintro e w5 ⟨rfl, rfl⟩)
      | (go_at_call 77; refine (HWe.out _).mono ?_; rintro e w5 ⟨rfl, rfl⟩))
    go_ret
    exact ⟨by rw [HR.out]; rfl, HB.out⟩
end Go.Proofs.Ytcofmfjhgbihkaa.crush
