/- The document's Accept. -/
import Derived.Test.YtmdipcemhaomhaaRows
import Derived.Test.YtmdipcemhaomhaaAccRPrep
namespace Go.Proofs.Ytmdipcemhaomhaa.crush
open Go.RowKit
open Go.Proofs.Ytmdipcemhaomhaa.kit Go.Proofs.Ytmdipcemhaomhaa.own
set_option linter.unusedVariables false
set_option linter.unusedSimpArgs false

theorem acc_no {a : AccV} {b : BalV} {n : Int} {t : ByteArray} (h : okBal b.r b.m = false ∨ laterB a.pr a.pm b.r b.m = true ∨ okTxt t = false) : accE a b n t = a ∧ accN a b n t = 0 := by
  rcases acc_cases a b n t with ⟨h1, h2, h3⟩ | ⟨h1, h2, h3, h4⟩ | ⟨h1, h2, -⟩ | ⟨h1, h2, -⟩ | ⟨h1, h2, -⟩ | ⟨h1, h2, -⟩
  · exact ⟨h2, h3⟩
  · refine ⟨?_, h4⟩
    rw [h3]; unfold prepE; rw [h2]; rfl
  all_goals
    obtain ⟨g1, g2⟩ : okBal b.r b.m = true ∧ laterB a.pr a.pm b.r b.m = false := by
      unfold prepOk at h2; simpa using h2
    rcases h with h | h | h
    · rw [g1] at h; cases h
    · rw [g2] at h; cases h
    · rw [h1] at h; cases h
theorem acc_yes {a : AccV} {b : BalV} {n : Int} {t : ByteArray} (h1 : okBal b.r b.m = true) (h2 : laterB a.pr a.pm b.r b.m = false) (h3 : okTxt t = true) :
    (n ≤ (a.com.length : Int) ∧ accE a b n t = { a with pr := b.r, pm := b.m } ∧ accN a b n t = 2) ∨
    (¬ n ≤ (a.com.length : Int) ∧ (True → (n != (a.com.length : Int) + 1) = true) ∧ accE a b n t = { a with pr := b.r, pm := b.m } ∧ accN a b n t = 3) ∨
    (¬ n ≤ (a.com.length : Int) ∧ (True → (n != (a.com.length : Int) + 1) = false) ∧ 4096 ≤ (a.com.length : Int) ∧ accE a b n t = { a with pr := b.r, pm := b.m } ∧ accN a b n t = 3) ∨
    (¬ n ≤ (a.com.length : Int) ∧ (True → (n != (a.com.length : Int) + 1) = false) ∧ ¬ 4096 ≤ (a.com.length : Int) ∧ accE a b n t = { a with pr := b.r, pm := b.m, has := true, ar := b.r, am := b.m, val := t } ∧ accN a b n t = 1) := by
  have hp : prepOk a b = true := by unfold prepOk; rw [h1, h2]; rfl
  have he : prepE a b = { a with pr := b.r, pm := b.m } := by unfold prepE; rw [if_pos hp]
  rcases acc_cases a b n t with ⟨g1, -⟩ | ⟨g1, g2, -⟩ | ⟨-, -, g1, g2, g3⟩ | ⟨-, -, g1, g2, g3, g4⟩ | ⟨-, -, g1, g2, g3, g4, g5⟩ | ⟨-, -, g1, g2, g3, g4, g5⟩
  · rw [h3] at g1; cases g1
  · rw [hp] at g2; cases g2
  · exact .inl ⟨g1, by rw [g2, he], g3⟩
  · exact .inr (.inl ⟨g1, g2, by rw [g3, he], g4⟩)
  · exact .inr (.inr (.inl ⟨g1, g2, g3, by rw [g4, he], g5⟩))
  · exact .inr (.inr (.inr ⟨g1, g2, g3, by rw [g4, he], g5⟩))

set_option maxHeartbeats 16000000 in
set_option maxRecDepth 100000 in
theorem rAccept_any (v : Value) (a : AccV) (b : BalV) (n : Int) (t : ByteArray) (w : World) (h : AccR w v a) (hl : a.com.length * 16 ≤ 140737488355328) : Calls Try.prog 14 #[v, b.val, .int .i64 n, .string t] w (AcptS w a b n t) := by
  have HCo := Lib.hid (fun u (hu : Below w.heap.size w u) => rCopy_any v a u (h.keep hu) hl)
  have hwr : IntKind.i64.wrap ((a.com.length : Int) + 1) = (a.com.length : Int) + 1 := by rw [IntKind.wrap_i64]; omega
  obtain ⟨s, rfl, hs⟩ := h
  obtain ⟨r, m⟩ := b
  obtain ⟨x, y, rfl⟩ := hs.slice
  have HX := Lib.hid (three_new w a.pr a.pm a.has a.ar a.am a.val (.slice x a.com.length y) r m)
  have HP := Lib.hid (fun u => rBallot_any r m u)
  have HL := Lib.hid (fun u => rLater_any a.pr a.pm r m u)
  have HV := Lib.hid (fun u => rValue_any t u)
  have HNo := Lib.hid (@acc_no a ⟨r, m⟩ n t)
  have HYes := Lib.hid (@acc_yes a ⟨r, m⟩ n t)
  obtain ⟨q1, hq1⟩ : ∃ q, okBal r m = q := ⟨_, rfl⟩
  obtain ⟨q2, hq2⟩ : ∃ q, laterB a.pr a.pm r m = q := ⟨_, rfl⟩
  obtain ⟨q3, hq3⟩ : ∃ q, okTxt t = q := ⟨_, rfl⟩
  simp only [hq1, hq2, hq3] at HP HL HV HNo HYes
  unfold AcptS
  obtain ⟨E, hE⟩ : ∃ E, accE a ⟨r, m⟩ n t = E := ⟨_, rfl⟩
  obtain ⟨Z, hZ⟩ : ∃ Z, accN a ⟨r, m⟩ n t = Z := ⟨_, rfl⟩
  rw [hE, hZ] at HNo HYes ⊢
  clear hs hl hq1 hq2 hq3 hE hZ
  unfold AccS at HCo
  obtain ⟨pr, pm, has, ar, am, val, com⟩ := a
  unfold AccV.agg at HCo ⊢
  unfold BalV.val
  simp only at HCo HX HL HNo HYes hwr ⊢
  obtain ⟨L, hL⟩ : ∃ L, com.length = L := ⟨_, rfl⟩
  have HLn := Lib.hid hL
  rw [hL] at HX HCo hwr HYes ⊢
  have hkw : True → IntKind.i64.wrap ((L : Int) + 1) = (L : Int) + 1 := fun _ => hwr
  clear hL hwr
  go_enter Try.func14, Try.ntmps14
  go_upto_region 1 with fail
  generalize (((w.alloc (.cells #[.int .i64 pr, .int .i64 pm, .bool has, .int .i64 ar, .int .i64 am, .string val, .slice x L y] 26)).alloc (.cells #[.int .i64 r, .int .i64 m] 23)).alloc (.cells #[.int .i64 0, .int .i64 0, .bool false, .int .i64 0, .int .i64 0, .string { data := #[] }, .slice none 0 0] 26)) = W at HX ⊢
  obtain ⟨c0, c1, c2, c3, c4, c5, c6⟩ := HX.out.one.cells
  go_upto_region 2 with (go_at_call 9; refine (HCo.out _ HX.out.bel).mono ?_; rintro e w5 ⟨v5, rfl, ho, hb⟩; obtain ⟨x5, y5, rfl⟩ := ho.slice; rw [HLn.out] at ho ⊢; have HX5 := Lib.hid (HX.out.keep hb); have HO5 := Lib.hid (ho.mono (show w.heap.size + 1 + 1 + 1 ≤ _ from HX.out.two.lt)); clear ho hb c0 c1 c2 c3 c4 c5 c6)
  have hb6 := below_new w5 (.cells #[.int .i64 pr, .int .i64 pm, .bool has, .int .i64 ar, .int .i64 am, .string val, .slice x5 L y5] 26)
  have HX6 : Hid (Four w w.heap.size w5.heap.size ⟨pr, pm, has, ar, am, val, com⟩ (.slice x L y) r m ⟨pr, pm, has, ar, am, val, com⟩ (.slice x5 L y5) (w5.alloc (.cells #[.int .i64 pr, .int .i64 pm, .bool has, .int .i64 ar, .int .i64 am, .string val, .slice x5 L y5] 26))) := Lib.hid ⟨HX5.out.keep hb6, abox_new w5 _ _ _ _ _ _ _, HX5.out.two.lt⟩
  have HO6 := Lib.hid (HO5.out.below hb6)
  have HOb : Hid (∀ g, (Value.slice x5 L y5).ownBlock = some g → g < w5.heap.size) := Lib.hid (fun g hg => (HO5.out.blk g hg).2)
  clear hb6
  generalize w5.alloc _ = W6 at HX6 HO6 ⊢
  generalize w5.heap.size = M at HX6 HOb ⊢
  obtain ⟨c0, c1, c2, c3, c4, c5, c6⟩ := HX6.out.th.one.cells
  obtain ⟨b0, b1⟩ := HX6.out.th.balc
  simp only at c0 c1 c2 c3 c4 c5 c6
  cases q1 with
  | false =>
    obtain ⟨rfl, rfl⟩ := HNo.out (.inl rfl)
    go_upto_region 3 with (go_at_call 43; refine (HP.out _).mono ?_; rintro e w7 ⟨rfl, hb⟩; have HX7 := Lib.hid (HX6.out.keep hb); have HO7 := Lib.hid (HO6.out.below hb); clear hb c0 c1 c2 c3 c4 c5 c6 b0 b1; obtain ⟨c0, c1, c2, c3, c4, c5, c6⟩ := HX7.out.th.one.cells; obtain ⟨b0, b1⟩ := HX7.out.th.balc; simp only at c0 c1 c2 c3 c4 c5 c6)
    clear c0 c1 c2 c3 c4 c5 c6
    obtain ⟨c0, c1, c2, c3, c4, c5, c6⟩ := HX7.out.cp.cells
    simp only at c0 c1 c2 c3 c4 c5 c6
    go_wp2_with (refine wpList_store_mid rfl 26 _ _ rfl (w.heap.size + 1 + 1) 0 #[.int .i64 pr, .int .i64 pm, .bool has, .int .i64 ar, .int .i64 am, .string val, .slice x5 L y5] rfl rfl HX7.out.th.two.there sizeAcc (acc_one _ _ _ _ _ _ _ _ _) ?_)
    refine bodyPost_ret (ret_cell_tmp rfl rfl (HX7.out.th.two.put pr pm has ar am val (.slice x5 L y5)).range Try.underlying26 rfl sizeAcc) rfl ?_
    exact ⟨_, rfl, (far_block (N := w.heap.size + 1 + 1) (fun g hg => by have := (HO7.out.blk g hg).1; omega) _ 0 HO7.out).mono (by omega), Below.setCells HX7.out.th.bel (b := w.heap.size + 1 + 1) (by omega) 0 _⟩
  | true =>
    cases q2 with
    | true =>
      obtain ⟨rfl, rfl⟩ := HNo.out (.inr (.inl rfl))
      go_upto_region 3 with (first
        | (go_at_call 43; refine (HP.out _).mono ?_; rintro e w7 ⟨rfl, hb⟩; have HX7 := Lib.hid (HX6.out.keep hb); have HO7 := Lib.hid (HO6.out.below hb); clear hb c0 c1 c2 c3 c4 c5 c6 b0 b1; obtain ⟨c0, c1, c2, c3, c4, c5, c6⟩ := HX7.out.th.one.cells; obtain ⟨b0, b1⟩ := HX7.out.th.balc; simp only at c0 c1 c2 c3 c4 c5 c6)
        | (go_at_call 29; refine (HL.out _).mono ?_; rintro e w8 ⟨rfl, hb⟩; have HX8 := Lib.hid (HX7.out.keep hb); have HO8 := Lib.hid (HO7.out.below hb); clear hb c0 c1 c2 c3 c4 c5 c6 b0 b1; obtain ⟨c0, c1, c2, c3, c4, c5, c6⟩ := HX8.out.th.one.cells; obtain ⟨b0, b1⟩ := HX8.out.th.balc; simp only at c0 c1 c2 c3 c4 c5 c6))
      clear c0 c1 c2 c3 c4 c5 c6
      obtain ⟨c0, c1, c2, c3, c4, c5, c6⟩ := HX8.out.cp.cells
      simp only at c0 c1 c2 c3 c4 c5 c6
      go_wp2_with (refine wpList_store_mid rfl 26 _ _ rfl (w.heap.size + 1 + 1) 0 #[.int .i64 pr, .int .i64 pm, .bool has, .int .i64 ar, .int .i64 am, .string val, .slice x5 L y5] rfl rfl HX8.out.th.two.there sizeAcc (acc_one _ _ _ _ _ _ _ _ _) ?_)
      refine bodyPost_ret (ret_cell_tmp rfl rfl (HX8.out.th.two.put pr pm has ar am val (.slice x5 L y5)).range Try.underlying26 rfl sizeAcc) rfl ?_
      exact ⟨_, rfl, (far_block (N := w.heap.size + 1 + 1) (fun g hg => by have := (HO8.out.blk g hg).1; omega) _ 0 HO8.out).mono (by omega), Below.setCells HX8.out.th.bel (b := w.heap.size + 1 + 1) (by omega) 0 _⟩
    | false =>
      cases q3 with
      | false =>
        obtain ⟨rfl, rfl⟩ := HNo.out (.inr (.inr rfl))
        go_upto_region 3 with (first
          | (go_at_call 43; refine (HP.out _).mono ?_; rintro e w7 ⟨rfl, hb⟩; have HX7 := Lib.hid (HX6.out.keep hb); have HO7 := Lib.hid (HO6.out.below hb); clear hb c0 c1 c2 c3 c4 c5 c6 b0 b1; obtain ⟨c0, c1, c2, c3, c4, c5, c6⟩ := HX7.out.th.one.cells; obtain ⟨b0, b1⟩ := HX7.out.th.balc; simp only at c0 c1 c2 c3 c4 c5 c6)
          | (go_at_call 29; refine (HL.out _).mono ?_; rintro e w8 ⟨rfl, hb⟩; have HX8 := Lib.hid (HX7.out.keep hb); have HO8 := Lib.hid (HO7.out.below hb); clear hb c0 c1 c2 c3 c4 c5 c6 b0 b1; obtain ⟨c0, c1, c2, c3, c4, c5, c6⟩ := HX8.out.th.one.cells; obtain ⟨b0, b1⟩ := HX8.out.th.balc; simp only at c0 c1 c2 c3 c4 c5 c6)
          | (go_at_call 44; refine (HV.out _).mono ?_; rintro e w9 ⟨rfl, hb⟩; have HX9 := Lib.hid (HX8.out.keep hb); have HO9 := Lib.hid (HO8.out.below hb); clear hb c0 c1 c2 c3 c4 c5 c6 b0 b1; obtain ⟨b0, b1⟩ := HX9.out.th.balc))
        obtain ⟨c0, c1, c2, c3, c4, c5, c6⟩ := HX9.out.cp.cells
        simp only at c0 c1 c2 c3 c4 c5 c6
        go_wp2_with (refine wpList_store_mid rfl 26 _ _ rfl (w.heap.size + 1 + 1) 0 #[.int .i64 pr, .int .i64 pm, .bool has, .int .i64 ar, .int .i64 am, .string val, .slice x5 L y5] rfl rfl HX9.out.th.two.there sizeAcc (acc_one _ _ _ _ _ _ _ _ _) ?_)
        refine bodyPost_ret (ret_cell_tmp rfl rfl (HX9.out.th.two.put pr pm has ar am val (.slice x5 L y5)).range Try.underlying26 rfl sizeAcc) rfl ?_
        exact ⟨_, rfl, (far_block (N := w.heap.size + 1 + 1) (fun g hg => by have := (HO9.out.blk g hg).1; omega) _ 0 HO9.out).mono (by omega), Below.setCells HX9.out.th.bel (b := w.heap.size + 1 + 1) (by omega) 0 _⟩
      | true =>
        have HYs := Lib.hid (HYes.out rfl rfl rfl)
        clear HNo HYes
        go_upto_region 4 with (first
          | (go_at_call 43; refine (HP.out _).mono ?_; rintro e w7 ⟨rfl, hb⟩; have HX7 := Lib.hid (HX6.out.keep hb); have HO7 := Lib.hid (HO6.out.below hb); clear hb c0 c1 c2 c3 c4 c5 c6 b0 b1; obtain ⟨c0, c1, c2, c3, c4, c5, c6⟩ := HX7.out.th.one.cells; obtain ⟨b0, b1⟩ := HX7.out.th.balc; simp only at c0 c1 c2 c3 c4 c5 c6)
          | (go_at_call 29; refine (HL.out _).mono ?_; rintro e w8 ⟨rfl, hb⟩; have HX8 := Lib.hid (HX7.out.keep hb); have HO8 := Lib.hid (HO7.out.below hb); clear hb c0 c1 c2 c3 c4 c5 c6 b0 b1; obtain ⟨c0, c1, c2, c3, c4, c5, c6⟩ := HX8.out.th.one.cells; obtain ⟨b0, b1⟩ := HX8.out.th.balc; simp only at c0 c1 c2 c3 c4 c5 c6)
          | (go_at_call 44; refine (HV.out _).mono ?_; rintro e w9 ⟨rfl, hb⟩; have HX9 := Lib.hid (HX8.out.keep hb); have HO9 := Lib.hid (HO8.out.below hb); clear hb c0 c1 c2 c3 c4 c5 c6 b0 b1; obtain ⟨b0, b1⟩ := HX9.out.th.balc))
        go_upto_region 5 with (refine wpList_store_mid rfl 23 _ _ rfl M 0 #[.int .i64 r, .int .i64 m] rfl rfl (there_two HX9.out.cp.there) sizeBal (bal_one _ _) ?_)
        have HX10 : Hid (Four w w.heap.size M ⟨pr, pm, has, ar, am, val, com⟩ (.slice x L y) r m ⟨r, m, has, ar, am, val, com⟩ (.slice x5 L y5) (w9.setCells M 0 [.int .i64 r, .int .i64 m])) := Lib.hid (HX9.out.turn 0 [.int .i64 r, .int .i64 m] (b' := ⟨r, m, has, ar, am, val, com⟩) (HX9.out.cp.promise r m))
        have HO10 := Lib.hid (far_block (fun g hg => Nat.ne_of_lt (HOb.out g hg)) [.int .i64 r, .int .i64 m] 0 HO9.out)
        clear b0 b1
        generalize w9.setCells M 0 _ = W10 at HX10 HO10 ⊢
        have a6 := HX10.out.th.one.cells.2.2.2.2.2.2
        obtain ⟨c0, c1, c2, c3, c4, c5, c6⟩ := HX10.out.cp.cells
        simp only at c0 c1 c2 c3 c4 c5 c6
        rcases HYs.out with ⟨h1, rfl, rfl⟩ | ⟨h1, h2, rfl, rfl⟩ | ⟨h1, h2, h3, rfl, rfl⟩ | ⟨h1, h2, h3, rfl, rfl⟩
        rotate_right
        · have f2 := HX10.out.cp.thaw 2
          go_upto_region 11 with fail
          have HX11 : Hid (Four w w.heap.size M ⟨pr, pm, has, ar, am, val, com⟩ (.slice x L y) r m ⟨r, m, true, ar, am, val, com⟩ (.slice x5 L y5) (W10.setCell ⟨M, 2, none⟩ (.bool true))) := Lib.hid (HX10.out.turn 2 [.bool true] (b' := ⟨r, m, true, ar, am, val, com⟩) (heap_setCells M 26 [.bool true] 2 W10 _ HX10.out.cp))
          have HO11 : Hid (Own tx 1 9 (W10.setCell ⟨M, 2, none⟩ (.bool true)) _ (.slice x5 L y5) com) := Lib.hid (far_block (fun g hg => Nat.ne_of_lt (HOb.out g hg)) [.bool true] 2 HO10.out)
          clear c0 c1 c2 c3 c4 c5 c6 a6 f2
          generalize W10.setCell ⟨M, 2, none⟩ (.bool true) = W11 at HX11 HO11 ⊢
          obtain ⟨b0, b1⟩ := HX11.out.th.balc
          go_upto_region 12 with (refine wpList_store_mid rfl 23 _ _ rfl M 3 #[.int .i64 r, .int .i64 m] rfl rfl (there_at HX11.out.cp.there 3 2 (by omega)) sizeBal (bal_one _ _) ?_)
          have HX12 : Hid (Four w w.heap.size M ⟨pr, pm, has, ar, am, val, com⟩ (.slice x L y) r m ⟨r, m, true, r, m, val, com⟩ (.slice x5 L y5) (W11.setCells M 3 [.int .i64 r, .int .i64 m])) := Lib.hid (HX11.out.turn 3 [.int .i64 r, .int .i64 m] (b' := ⟨r, m, true, r, m, val, com⟩) (heap_setCells M 26 [.int .i64 r, .int .i64 m] 3 W11 _ HX11.out.cp))
          have HO12 := Lib.hid (far_block (fun g hg => Nat.ne_of_lt (HOb.out g hg)) [.int .i64 r, .int .i64 m] 3 HO11.out)
          clear b0 b1
          generalize W11.setCells M 3 _ = W12 at HX12 HO12 ⊢
          have e5 : W12.cell? ⟨M, 5, none⟩ = some (.string val) := HX12.out.cp.cells.2.2.2.2.2.1
          have f5 := HX12.out.cp.thaw 5
          go_upto_region 13 with fail
          have HX13 : Hid (Four w w.heap.size M ⟨pr, pm, has, ar, am, val, com⟩ (.slice x L y) r m ⟨r, m, true, r, m, t, com⟩ (.slice x5 L y5) (W12.setCell ⟨M, 5, none⟩ (.string t))) := Lib.hid (HX12.out.turn 5 [.string t] (b' := ⟨r, m, true, r, m, t, com⟩) (heap_setCells M 26 [.string t] 5 W12 _ HX12.out.cp))
          have HO13 : Hid (Own tx 1 9 (W12.setCell ⟨M, 5, none⟩ (.string t)) _ (.slice x5 L y5) com) := Lib.hid (far_block (fun g hg => Nat.ne_of_lt (HOb.out g hg)) [.string t] 5 HO12.out)
          clear e5 f5
          generalize W12.setCell ⟨M, 5, none⟩ (.string t) = W13 at HX13 HO13 ⊢
          obtain ⟨c0, c1, c2, c3, c4, c5, c6⟩ := HX13.out.cp.cells
          simp only at c0 c1 c2 c3 c4 c5 c6
          go_wp2_with (refine wpList_store_mid rfl 26 _ _ rfl (w.heap.size + 1 + 1) 0 #[.int .i64 r, .int .i64 m, .bool true, .int .i64 r, .int .i64 m, .string t, .slice x5 L y5] rfl rfl HX13.out.th.two.there sizeAcc (acc_one _ _ _ _ _ _ _ _ _) ?_)
          refine bodyPost_ret (ret_cell_tmp rfl rfl (HX13.out.th.two.put r m true r m t (.slice x5 L y5)).range Try.underlying26 rfl sizeAcc) rfl ?_
          exact ⟨_, rfl, (far_block (N := w.heap.size + 1 + 1) (fun g hg => by have := (HO13.out.blk g hg).1; omega) _ 0 HO13.out).mono (by omega), Below.setCells HX13.out.th.bel (b := w.heap.size + 1 + 1) (by omega) 0 _⟩
        all_goals
          go_wp2_with (refine wpList_store_mid rfl 26 _ _ rfl (w.heap.size + 1 + 1) 0 #[.int .i64 r, .int .i64 m, .bool has, .int .i64 ar, .int .i64 am, .string val, .slice x5 L y5] rfl rfl HX10.out.th.two.there sizeAcc (acc_one _ _ _ _ _ _ _ _ _) ?_)
          refine bodyPost_ret (ret_cell_tmp rfl rfl (HX10.out.th.two.put r m has ar am val (.slice x5 L y5)).range Try.underlying26 rfl sizeAcc) rfl ?_
          exact ⟨_, rfl, (far_block (N := w.heap.size + 1 + 1) (fun g hg => by have := (HO10.out.blk g hg).1; omega) _ 0 HO10.out).mono (by omega), Below.setCells HX10.out.th.bel (b := w.heap.size + 1 + 1) (by omega) 0 _⟩
end Go.Proofs.Ytmdipcemhaomhaa.crush
