/- The document's Fit: whatever it says, it says it, and what it calls fit has at most 4096 commits. -/
import Derived.Test.YtmdipcemhaomhaaRows
import Derived.Test.YtmdipcemhaomhaaAccRef
namespace Go.Proofs.Ytmdipcemhaomhaa.crush
open Go.RowKit
open Go.Proofs.Ytmdipcemhaomhaa.kit Go.Proofs.Ytmdipcemhaomhaa.own
set_option linter.unusedVariables false
set_option linter.unusedSimpArgs false

def FitS (w : World) (n : Nat) (e : Ending) (w' : World) : Prop := ∃ q, e = .returned (.bool q) ∧ (q = true → n ≤ 4096) ∧ Below w.heap.size w w'
/-- The acceptor's box, somewhere behind w. -/
structure FtB (w : World) (N : Nat) (a : AccV) (s : Value) (W : World) : Prop where
  bel : Below w.heap.size w W
  one : ABox W N a.pr a.pm a.has a.ar a.am a.val s
theorem FtB.keep {w : World} {N : Nat} {a : AccV} {s : Value} {W W' : World} (h : FtB w N a s W) (hb : Below W.heap.size W W') : FtB w N a s W' := ⟨h.bel.trans (hb.mono h.bel.size), h.one.keep hb⟩

theorem fit_cases (has : Bool) (ar am : Int) (q2 q3 q4 : Bool) : (has = true ∧ (ar < 1 ∨ (¬ ar < 1 ∧ am < 0) ∨ (¬ ar < 1 ∧ ¬ am < 0 ∧ 5 ≤ am) ∨ (¬ ar < 1 ∧ ¬ am < 0 ∧ ¬ 5 ≤ am ∧ q2 = true) ∨ (¬ ar < 1 ∧ ¬ am < 0 ∧ ¬ 5 ≤ am ∧ q2 = false ∧ q3 = false) ∨ (¬ ar < 1 ∧ ¬ am < 0 ∧ ¬ 5 ≤ am ∧ q2 = false ∧ q3 = true))) ∨
        (has = false ∧ ((True → (ar == 0) = false) ∨ ((True → (ar == 0) = true) ∧ (True → (am == 0) = false)) ∨ ((True → (ar == 0) = true) ∧ (True → (am == 0) = true) ∧ q4 = false) ∨ ((True → (ar == 0) = true) ∧ (True → (am == 0) = true) ∧ q4 = true))) := by
  cases has with
  | true =>
    refine .inl ⟨rfl, ?_⟩
    by_cases h1 : ar < 1
    · exact .inl h1
    · by_cases h2 : am < 0
      · exact .inr (.inl ⟨h1, h2⟩)
      · by_cases h3 : 5 ≤ am
        · exact .inr (.inr (.inl ⟨h1, h2, h3⟩))
        · cases q2 with
          | true => exact .inr (.inr (.inr (.inl ⟨h1, h2, h3, rfl⟩)))
          | false =>
            cases q3 with
            | false => exact .inr (.inr (.inr (.inr (.inl ⟨h1, h2, h3, rfl, rfl⟩))))
            | true => exact .inr (.inr (.inr (.inr (.inr ⟨h1, h2, h3, rfl, rfl⟩))))
  | false =>
    refine .inr ⟨rfl, ?_⟩
    by_cases h1 : ar = 0
    · by_cases h2 : am = 0
      · cases q4 with
        | false => exact .inr (.inr (.inl ⟨fun _ => by simp [h1], fun _ => by simp [h2], rfl⟩))
        | true => exact .inr (.inr (.inr ⟨fun _ => by simp [h1], fun _ => by simp [h2], rfl⟩))
      · exact .inr (.inl ⟨fun _ => by simp [h1], fun _ => by simp [h2]⟩)
    · exact .inl (fun _ => by simp [h1])
set_option maxHeartbeats 16000000 in
set_option maxRecDepth 100000 in
theorem rFit15_any (v : Value) (a : AccV) (w : World) (h : AccR w v a) : Calls Try.prog 7 #[v] w (FitS w a.com.length) := by
  obtain ⟨s, rfl, hs⟩ := h
  have HSl := Lib.hid (fun u (hu : Below w.heap.size w u) => hs.keep hu)
  have hlm := hs.1
  obtain ⟨x, y, rfl⟩ := hs.slice
  have HP := Lib.hid (fun u => rBallot_any a.pr a.pm u)
  have HL := Lib.hid (fun u => rLater_any a.ar a.am a.pr a.pm u)
  have HV := Lib.hid (fun t u => rValue_any t u)
  have HX : Hid (FtB w w.heap.size a (.slice x a.com.length y) (w.alloc (.cells #[.int .i64 a.pr, .int .i64 a.pm, .bool a.has, .int .i64 a.ar, .int .i64 a.am, .string a.val, .slice x a.com.length y] 26))) := Lib.hid ⟨below_new w _, abox_new w _ _ _ _ _ _ _⟩
  obtain ⟨q1, hq1⟩ : ∃ q, okBal a.pr a.pm = q := ⟨_, rfl⟩
  obtain ⟨q2, hq2⟩ : ∃ q, laterB a.ar a.am a.pr a.pm = q := ⟨_, rfl⟩
  rw [hq1] at HP; rw [hq2] at HL
  obtain ⟨pr, pm, has, ar, am, val, com⟩ := a
  unfold AccV.agg
  simp only at HP HL HX HSl hlm ⊢
  obtain ⟨L, hL⟩ : ∃ L, com.length = L := ⟨_, rfl⟩
  have HLn := Lib.hid hL
  rw [hL] at HX HSl hlm ⊢
  have HLm := Lib.hid hlm
  clear hs hq1 hq2 hL hlm
  obtain ⟨q3, hq3⟩ : ∃ q, okTxt val = q := ⟨_, rfl⟩
  have HV3 := Lib.hid (fun u => HV.out val u)
  rw [hq3] at HV3
  obtain ⟨q4, hq4⟩ : ∃ q, val.toList.isEmpty = q := ⟨_, rfl⟩
  have hem : True → val.toList.isEmpty = q4 := fun _ => hq4
  have h1 : (q1 = true) ∨ (q1 = false ∧ (True → (pr == 0) = true) ∧ (True → (pm == 0) = true)) ∨ (q1 = false ∧ (True → (pr == 0) = true) ∧ (True → (pm == 0) = false)) ∨ (q1 = false ∧ (True → (pr == 0) = false)) := by
    cases q1 with
    | true => exact .inl rfl
    | false =>
      by_cases g1 : pr = 0
      · by_cases g2 : pm = 0
        · exact .inr (.inl ⟨rfl, fun _ => by simp [g1], fun _ => by simp [g2]⟩)
        · exact .inr (.inr (.inl ⟨rfl, fun _ => by simp [g1], fun _ => by simp [g2]⟩))
      · exact .inr (.inr (.inr ⟨rfl, fun _ => by simp [g1]⟩))
  clear hq3 hq4
  go_enter Try.func7, Try.ntmps7
  go_upto_region 1 with fail
  generalize w.alloc _ = W at HX ⊢
  obtain ⟨N, hN⟩ : ∃ N, w.heap.size = N := ⟨_, rfl⟩
  have HN := Lib.hid hN
  rw [hN] at HX ⊢
  clear hN
  obtain ⟨c0, c1, c2, c3, c4, c5, c6⟩ := HX.out.one.cells
  simp only at c0 c1 c2 c3 c4 c5 c6
  rcases h1 with rfl | ⟨rfl, g1, g2⟩ | ⟨rfl, g1, g2⟩ | ⟨rfl, g1⟩
  rotate_left 2
  · go_wp2_with (go_at_call 43; refine (HP.out _).mono ?_; rintro e V ⟨rfl, hb⟩; have HX := Lib.hid (HX.out.keep hb); clear hb c0 c1 c2 c3 c4 c5 c6; obtain ⟨c0, c1, c2, c3, c4, c5, c6⟩ := HX.out.one.cells; simp only at c0 c1 c2 c3 c4 c5 c6)
    go_ret
    exact ⟨false, rfl, fun h => (by cases h), HX.out.bel⟩
  · go_wp2_with (go_at_call 43; refine (HP.out _).mono ?_; rintro e V ⟨rfl, hb⟩; have HX := Lib.hid (HX.out.keep hb); clear hb c0 c1 c2 c3 c4 c5 c6; obtain ⟨c0, c1, c2, c3, c4, c5, c6⟩ := HX.out.one.cells; simp only at c0 c1 c2 c3 c4 c5 c6)
    go_ret
    exact ⟨false, rfl, fun h => (by cases h), HX.out.bel⟩
  all_goals
    go_upto_region 3 with (go_at_call 43; refine (HP.out _).mono ?_; rintro e V ⟨rfl, hb⟩; have HX := Lib.hid (HX.out.keep hb); clear hb c0 c1 c2 c3 c4 c5 c6; obtain ⟨c0, c1, c2, c3, c4, c5, c6⟩ := HX.out.one.cells; simp only at c0 c1 c2 c3 c4 c5 c6)
  all_goals
    have h2 : (has = true ∧ (ar < 1 ∨ (¬ ar < 1 ∧ am < 0) ∨ (¬ ar < 1 ∧ ¬ am < 0 ∧ 5 ≤ am) ∨ (¬ ar < 1 ∧ ¬ am < 0 ∧ ¬ 5 ≤ am ∧ q2 = true) ∨ (¬ ar < 1 ∧ ¬ am < 0 ∧ ¬ 5 ≤ am ∧ q2 = false ∧ q3 = false) ∨ (¬ ar < 1 ∧ ¬ am < 0 ∧ ¬ 5 ≤ am ∧ q2 = false ∧ q3 = true))) ∨
        (has = false ∧ ((True → (ar == 0) = false) ∨ ((True → (ar == 0) = true) ∧ (True → (am == 0) = false)) ∨ ((True → (ar == 0) = true) ∧ (True → (am == 0) = true) ∧ q4 = false) ∨ ((True → (ar == 0) = true) ∧ (True → (am == 0) = true) ∧ q4 = true))) := fit_cases has ar am q2 q3 q4
    rcases h2 with ⟨rfl, k1 | ⟨k1, k2⟩ | ⟨k1, k2, k3⟩ | ⟨k1, k2, k3, rfl⟩ | ⟨k1, k2, k3, rfl, rfl⟩ | ⟨k1, k2, k3, rfl, rfl⟩⟩ | ⟨rfl, k1 | ⟨k1, k2⟩ | ⟨k1, k2, rfl⟩ | ⟨k1, k2, rfl⟩⟩
    iterate 5
      · go_wp2_with (first
          | (go_at_call 29; refine (HL.out _).mono ?_; rintro e V ⟨rfl, hb⟩; have HX := Lib.hid (HX.out.keep hb); clear hb c0 c1 c2 c3 c4 c5 c6; obtain ⟨c0, c1, c2, c3, c4, c5, c6⟩ := HX.out.one.cells; simp only at c0 c1 c2 c3 c4 c5 c6)
          | (go_at_call 44; refine (HV3.out _).mono ?_; rintro e V ⟨rfl, hb⟩; have HX := Lib.hid (HX.out.keep hb); clear hb c0 c1 c2 c3 c4 c5 c6; obtain ⟨c0, c1, c2, c3, c4, c5, c6⟩ := HX.out.one.cells; simp only at c0 c1 c2 c3 c4 c5 c6))
        go_ret
        exact ⟨false, rfl, fun h => (by cases h), HX.out.bel⟩
    · go_wp2_with (first
        | (go_at_call 29; refine (HL.out _).mono ?_; rintro e V ⟨rfl, hb⟩; have HX := Lib.hid (HX.out.keep hb); clear hb c0 c1 c2 c3 c4 c5 c6; obtain ⟨c0, c1, c2, c3, c4, c5, c6⟩ := HX.out.one.cells; simp only at c0 c1 c2 c3 c4 c5 c6)
        | (go_at_call 44; refine (HV3.out _).mono ?_; rintro e V ⟨rfl, hb⟩; have HX := Lib.hid (HX.out.keep hb); clear hb c0 c1 c2 c3 c4 c5 c6; obtain ⟨c0, c1, c2, c3, c4, c5, c6⟩ := HX.out.one.cells; simp only at c0 c1 c2 c3 c4 c5 c6))
      clear c0 c1 c2 c3 c4 c5 c6
      go_loopw [3] (fun vi wr => ∃ k : Nat, k ≤ L ∧ k ≤ 4096 ∧ vi = .int .i64 k ∧ Hid (FtB w N ⟨pr, pm, true, ar, am, val, com⟩ (.slice x L y) wr)) (fun i _ => L - (intOf i).toNat)
      case atStart => exact ⟨0, by omega, by omega, rfl, HX⟩
      case round =>
        obtain ⟨k, hk, hk4, rfl, HA⟩ := hrel
        obtain ⟨c0, c1, c2, c3, c4, c5, c6⟩ := HA.out.one.cells
        simp only at c0 c1 c2 c3 c4 c5 c6
        by_cases hlt : k < L
        · have hlt' : (k : Int) < L := by omega
          have hk0 : (0 : Int) ≤ k := by omega
          by_cases h4 : 4096 ≤ (k : Int)
          · go_wp2
            go_ret
            exact ⟨false, rfl, fun h => (by cases h), HA.out.bel⟩
          · have hi : k < com.length := by rw [HLn.out]; exact hlt
            obtain ⟨_, a', cap', he, -, hcell⟩ := HSl.out wr HA.out.bel
            rw [HLn.out] at he
            cases he
            obtain ⟨b, off, rfl, hbl, hcell⟩ := hcell (by omega)
            have d1 := tcell_at (hcell k hi)
            rw [Nat.mul_one] at d1
            obtain ⟨z, hz⟩ : ∃ z, com[k] = z := ⟨_, rfl⟩
            rw [hz] at d1
            have HVz := Lib.hid (fun u => HV.out z u)
            obtain ⟨q5, hq5⟩ : ∃ q, okTxt z = q := ⟨_, rfl⟩
            rw [hq5] at HVz
            clear hcell hbl hz hq5 hi
            cases q5 with
            | false =>
              go_wp2_with (go_at_call 44; refine (HVz.out _).mono ?_; rintro e V ⟨rfl, hb⟩; have HA := Lib.hid (HA.out.keep hb); clear hb c0 c1 c2 c3 c4 c5 c6 d1)
              go_ret
              exact ⟨false, rfl, fun h => (by cases h), HA.out.bel⟩
            | true =>
              go_wp2_with (go_at_call 44; refine (HVz.out _).mono ?_; rintro e V ⟨rfl, hb⟩; have HA := Lib.hid (HA.out.keep hb); clear hb c0 c1 c2 c3 c4 c5 c6 d1)
              go_roundw
              case rel => exact ⟨k + 1, by omega, by omega, by go_num, HA⟩
              case measure => simp [intOf]; omega
        · have hle : L ≤ 4096 := by omega
          have hnl : ¬ (k : Int) < L := by omega
          have HLe := Lib.hid hle
          clear hle
          go_wp2
          go_ret
          exact ⟨true, rfl, fun _ => HLe.out, HA.out.bel⟩
    iterate 3
      · go_wp2_with (first
          | (go_at_call 29; refine (HL.out _).mono ?_; rintro e V ⟨rfl, hb⟩; have HX := Lib.hid (HX.out.keep hb); clear hb c0 c1 c2 c3 c4 c5 c6; obtain ⟨c0, c1, c2, c3, c4, c5, c6⟩ := HX.out.one.cells; simp only at c0 c1 c2 c3 c4 c5 c6)
          | (go_at_call 44; refine (HV3.out _).mono ?_; rintro e V ⟨rfl, hb⟩; have HX := Lib.hid (HX.out.keep hb); clear hb c0 c1 c2 c3 c4 c5 c6; obtain ⟨c0, c1, c2, c3, c4, c5, c6⟩ := HX.out.one.cells; simp only at c0 c1 c2 c3 c4 c5 c6))
        go_ret
        exact ⟨false, rfl, fun h => (by cases h), HX.out.bel⟩
    · go_wp2_with (first
        | (go_at_call 29; refine (HL.out _).mono ?_; rintro e V ⟨rfl, hb⟩; have HX := Lib.hid (HX.out.keep hb); clear hb c0 c1 c2 c3 c4 c5 c6; obtain ⟨c0, c1, c2, c3, c4, c5, c6⟩ := HX.out.one.cells; simp only at c0 c1 c2 c3 c4 c5 c6)
        | (go_at_call 44; refine (HV3.out _).mono ?_; rintro e V ⟨rfl, hb⟩; have HX := Lib.hid (HX.out.keep hb); clear hb c0 c1 c2 c3 c4 c5 c6; obtain ⟨c0, c1, c2, c3, c4, c5, c6⟩ := HX.out.one.cells; simp only at c0 c1 c2 c3 c4 c5 c6))
      clear c0 c1 c2 c3 c4 c5 c6
      go_loopw [3] (fun vi wr => ∃ k : Nat, k ≤ L ∧ k ≤ 4096 ∧ vi = .int .i64 k ∧ Hid (FtB w N ⟨pr, pm, false, ar, am, val, com⟩ (.slice x L y) wr)) (fun i _ => L - (intOf i).toNat)
      case atStart => exact ⟨0, by omega, by omega, rfl, HX⟩
      case round =>
        obtain ⟨k, hk, hk4, rfl, HA⟩ := hrel
        obtain ⟨c0, c1, c2, c3, c4, c5, c6⟩ := HA.out.one.cells
        simp only at c0 c1 c2 c3 c4 c5 c6
        by_cases hlt : k < L
        · have hlt' : (k : Int) < L := by omega
          have hk0 : (0 : Int) ≤ k := by omega
          by_cases h4 : 4096 ≤ (k : Int)
          · go_wp2
            go_ret
            exact ⟨false, rfl, fun h => (by cases h), HA.out.bel⟩
          · have hi : k < com.length := by rw [HLn.out]; exact hlt
            obtain ⟨_, a', cap', he, -, hcell⟩ := HSl.out wr HA.out.bel
            rw [HLn.out] at he
            cases he
            obtain ⟨b, off, rfl, hbl, hcell⟩ := hcell (by omega)
            have d1 := tcell_at (hcell k hi)
            rw [Nat.mul_one] at d1
            obtain ⟨z, hz⟩ : ∃ z, com[k] = z := ⟨_, rfl⟩
            rw [hz] at d1
            have HVz := Lib.hid (fun u => HV.out z u)
            obtain ⟨q5, hq5⟩ : ∃ q, okTxt z = q := ⟨_, rfl⟩
            rw [hq5] at HVz
            clear hcell hbl hz hq5 hi
            cases q5 with
            | false =>
              go_wp2_with (go_at_call 44; refine (HVz.out _).mono ?_; rintro e V ⟨rfl, hb⟩; have HA := Lib.hid (HA.out.keep hb); clear hb c0 c1 c2 c3 c4 c5 c6 d1)
              go_ret
              exact ⟨false, rfl, fun h => (by cases h), HA.out.bel⟩
            | true =>
              go_wp2_with (go_at_call 44; refine (HVz.out _).mono ?_; rintro e V ⟨rfl, hb⟩; have HA := Lib.hid (HA.out.keep hb); clear hb c0 c1 c2 c3 c4 c5 c6 d1)
              go_roundw
              case rel => exact ⟨k + 1, by omega, by omega, by go_num, HA⟩
              case measure => simp [intOf]; omega
        · have hle : L ≤ 4096 := by omega
          have hnl : ¬ (k : Int) < L := by omega
          have HLe := Lib.hid hle
          clear hle
          go_wp2
          go_ret
          exact ⟨true, rfl, fun _ => HLe.out, HA.out.bel⟩
end Go.Proofs.Ytmdipcemhaomhaa.crush
