/- The document's Prepare. -/
import Derived.Test.YtmdipcemhaomhaaRows
import Derived.Test.YtmdipcemhaomhaaAccRef
namespace Go.Proofs.Ytmdipcemhaomhaa.crush
open Go.RowKit
open Go.Proofs.Ytmdipcemhaomhaa.kit Go.Proofs.Ytmdipcemhaomhaa.own
set_option linter.unusedVariables false
set_option linter.unusedSimpArgs false

/-- Four boxes: the acceptor's, the ballot's, the result's, and the copy's. -/
structure Four (w : World) (N M : Nat) (a : AccV) (s : Value) (r m : Int) (b : AccV) (t : Value) (W : World) : Prop where
  th : Three w N a.pr a.pm a.has a.ar a.am a.val s r m W
  cp : ABox W M b.pr b.pm b.has b.ar b.am b.val t
  hM : N + 1 + 1 < M
section
variable {w : World} {N M : Nat} {a : AccV} {s : Value} {r m : Int} {b : AccV} {t : Value} {W W' : World}
theorem Four.keep (h : Four w N M a s r m b t W) (hb : Below W.heap.size W W') : Four w N M a s r m b t W' := ⟨h.th.keep hb, h.cp.keep hb, h.hM⟩
/-- Behind a store into the copy's box. -/
theorem Four.turn (h : Four w N M a s r m b t W) (o : Nat) (vs : List Value) {b' : AccV} {t' : Value} (hA : ABox (W.setCells M o vs) M b'.pr b'.pm b'.has b'.ar b'.am b'.val t') : Four w N M a s r m b' t' (W.setCells M o vs) := by
  have h1 := h.hM; have h2 := h.th.hN
  exact ⟨⟨h2, Below.setCells h.th.bel (by omega) o vs, (heap_setCells_other M vs o W _ (by omega)).trans h.th.one, (heap_setCells_other M vs o W _ (by omega)).trans h.th.bal, (heap_setCells_other M vs o W _ (by omega)).trans h.th.two⟩, hA, h.hM⟩
end
theorem far_block {α : Type} {enc : α → List Value} {k e B : Nat} {v : Value} {xs : List α} {N : Nat} (hN : ∀ g, v.ownBlock = some g → g ≠ N) : ∀ (vs : List Value) (o : Nat) {W : World} (h : Own enc k e W B v xs), Own enc k e (W.setCells N o vs) B v xs
  | [], _, _, h => h
  | u :: vs, o, _, h => far_block hN vs (o + 1) (h.setOther (fun e => hN N e rfl) o u)

set_option maxHeartbeats 8000000 in
set_option maxRecDepth 100000 in
theorem rPrepare_any (v : Value) (a : AccV) (b : BalV) (w : World) (h : AccR w v a) (hl : a.com.length * 16 ≤ 140737488355328) : Calls Try.prog 11 #[v, b.val] w (PrepS w a b) := by
  have HCo := Lib.hid (fun u (hu : Below w.heap.size w u) => rCopy_any v a u (h.keep hu) hl)
  obtain ⟨s, rfl, hs⟩ := h
  obtain ⟨r, m⟩ := b
  obtain ⟨x, y, rfl⟩ := hs.slice
  have HX := Lib.hid (three_new w a.pr a.pm a.has a.ar a.am a.val (.slice x a.com.length y) r m)
  have HP := Lib.hid (fun u => rBallot_any r m u)
  have HL := Lib.hid (fun u => rLater_any a.pr a.pm r m u)
  obtain ⟨q1, hq1⟩ : ∃ q, okBal r m = q := ⟨_, rfl⟩
  obtain ⟨q2, hq2⟩ : ∃ q, laterB a.pr a.pm r m = q := ⟨_, rfl⟩
  have hpo : prepOk a ⟨r, m⟩ = (q1 && !q2) := by unfold prepOk; simp only [hq1, hq2]
  have hpe : prepE a ⟨r, m⟩ = if (q1 && !q2) then { a with pr := r, pm := m } else a := by unfold prepE; rw [hpo]
  have HE : Hid (∀ e w', (∃ s, e = Ending.returned (.tuple #[(if (q1 && !q2) then ({ a with pr := r, pm := m } : AccV) else a).agg s, .bool (q1 && !q2)]) ∧ Own tx 1 9 w' w.heap.size s a.com ∧ Below w.heap.size w w') → PrepS w a ⟨r, m⟩ e w') := Lib.hid (fun e w' h => by unfold PrepS; rw [hpe, hpo]; exact h)
  rw [hq1] at HP; rw [hq2] at HL
  clear hs hl hq1 hq2 hpo hpe
  unfold AccS at HCo
  obtain ⟨pr, pm, has, ar, am, val, com⟩ := a
  unfold AccV.agg at HCo HE ⊢
  unfold BalV.val
  simp only at HCo HE HX HL ⊢
  obtain ⟨L, hL⟩ : ∃ L, com.length = L := ⟨_, rfl⟩
  have HLn := Lib.hid hL
  rw [hL] at HX HCo ⊢
  clear hL
  refine (?_ : Calls _ _ _ _ _).mono (fun e w' h => HE.out e w' h)
  clear HE
  go_enter Try.func11, Try.ntmps11
  go_upto_region 1 with fail
  generalize (((w.alloc (.cells #[.int .i64 pr, .int .i64 pm, .bool has, .int .i64 ar, .int .i64 am, .string val, .slice x L y] 26)).alloc (.cells #[.int .i64 r, .int .i64 m] 23)).alloc (.cells #[.int .i64 0, .int .i64 0, .bool false, .int .i64 0, .int .i64 0, .string { data := #[] }, .slice none 0 0] 26)) = W at HX ⊢
  obtain ⟨c0, c1, c2, c3, c4, c5, c6⟩ := HX.out.one.cells
  go_upto_region 2 with (go_at_call 9; refine (HCo.out _ HX.out.bel).mono ?_; rintro e w5 ⟨v5, rfl, ho, hb⟩; obtain ⟨x5, y5, rfl⟩ := ho.slice; rw [HLn.out] at ho ⊢; have HX5 := Lib.hid (HX.out.keep hb); have HO5 := Lib.hid (ho.mono (show w.heap.size + 1 + 1 + 1 ≤ _ from HX.out.two.lt)); clear ho hb c0 c1 c2 c3 c4 c5 c6)
  have hb6 := below_new w5 (.cells #[.int .i64 pr, .int .i64 pm, .bool has, .int .i64 ar, .int .i64 am, .string val, .slice x5 L y5] 26)
  have HX6 : Hid (Four w w.heap.size w5.heap.size ⟨pr, pm, has, ar, am, val, com⟩ (.slice x L y) r m ⟨pr, pm, has, ar, am, val, com⟩ (.slice x5 L y5) (w5.alloc (.cells #[.int .i64 pr, .int .i64 pm, .bool has, .int .i64 ar, .int .i64 am, .string val, .slice x5 L y5] 26))) := Lib.hid ⟨HX5.out.keep hb6, abox_new w5 _ _ _ _ _ _ _, HX5.out.two.lt⟩
  have HO6 := Lib.hid (HO5.out.below hb6)
  have HOb : Hid (∀ g, (Value.slice x5 L y5).ownBlock = some g → g < w5.heap.size) := Lib.hid (fun g hg => (HO5.out.blk g hg).2)
  clear hb6
  generalize w5.alloc _ = W6 at HX6 HO6 ⊢
  generalize w5.heap.size = M at HX6 HOb ⊢
  obtain ⟨c0, c1, c2, c3, c4, c5, c6⟩ := HX6.out.th.one.cells
  obtain ⟨b0, b1⟩ := HX6.out.th.balc
  simp only at c0 c1 c2 c3 c4 c5 c6
  cases q1 with
  | false =>
    go_upto_region 3 with (go_at_call 43; refine (HP.out _).mono ?_; rintro e w7 ⟨rfl, hb⟩; have HX7 := Lib.hid (HX6.out.keep hb); have HO7 := Lib.hid (HO6.out.below hb); clear hb c0 c1 c2 c3 c4 c5 c6 b0 b1; obtain ⟨c0, c1, c2, c3, c4, c5, c6⟩ := HX7.out.cp.cells; simp only at c0 c1 c2 c3 c4 c5 c6)
    go_wp2_with (refine wpList_store_mid rfl 26 _ _ rfl (w.heap.size + 1 + 1) 0 #[.int .i64 pr, .int .i64 pm, .bool has, .int .i64 ar, .int .i64 am, .string val, .slice x5 L y5] rfl rfl HX7.out.th.two.there sizeAcc (acc_one _ _ _ _ _ _ _ _ _) ?_)
    refine bodyPost_ret (ret_cell_tmp rfl rfl (HX7.out.th.two.put pr pm has ar am val (.slice x5 L y5)).range Try.underlying26 rfl sizeAcc) rfl ?_
    exact ⟨_, rfl, (far_block (N := w.heap.size + 1 + 1) (fun g hg => by have := (HO7.out.blk g hg).1; omega) _ 0 HO7.out).mono (by omega), Below.setCells HX7.out.th.bel (b := w.heap.size + 1 + 1) (by omega) 0 _⟩
  | true =>
    cases q2 with
    | true =>
      go_upto_region 3 with (first
        | (go_at_call 43; refine (HP.out _).mono ?_; rintro e w7 ⟨rfl, hb⟩; have HX7 := Lib.hid (HX6.out.keep hb); have HO7 := Lib.hid (HO6.out.below hb); clear hb c0 c1 c2 c3 c4 c5 c6 b0 b1; obtain ⟨c0, c1, c2, c3, c4, c5, c6⟩ := HX7.out.th.one.cells; obtain ⟨b0, b1⟩ := HX7.out.th.balc; simp only at c0 c1 c2 c3 c4 c5 c6)
        | (go_at_call 29; refine (HL.out _).mono ?_; rintro e w8 ⟨rfl, hb⟩; have HX8 := Lib.hid (HX7.out.keep hb); have HO8 := Lib.hid (HO7.out.below hb); clear hb c0 c1 c2 c3 c4 c5 c6 b0 b1; obtain ⟨c0, c1, c2, c3, c4, c5, c6⟩ := HX8.out.cp.cells; simp only at c0 c1 c2 c3 c4 c5 c6))
      go_wp2_with (refine wpList_store_mid rfl 26 _ _ rfl (w.heap.size + 1 + 1) 0 #[.int .i64 pr, .int .i64 pm, .bool has, .int .i64 ar, .int .i64 am, .string val, .slice x5 L y5] rfl rfl HX8.out.th.two.there sizeAcc (acc_one _ _ _ _ _ _ _ _ _) ?_)
      refine bodyPost_ret (ret_cell_tmp rfl rfl (HX8.out.th.two.put pr pm has ar am val (.slice x5 L y5)).range Try.underlying26 rfl sizeAcc) rfl ?_
      exact ⟨_, rfl, (far_block (N := w.heap.size + 1 + 1) (fun g hg => by have := (HO8.out.blk g hg).1; omega) _ 0 HO8.out).mono (by omega), Below.setCells HX8.out.th.bel (b := w.heap.size + 1 + 1) (by omega) 0 _⟩
    | false =>
      go_upto_region 4 with (first
        | (go_at_call 43; refine (HP.out _).mono ?_; rintro e w7 ⟨rfl, hb⟩; have HX7 := Lib.hid (HX6.out.keep hb); have HO7 := Lib.hid (HO6.out.below hb); clear hb c0 c1 c2 c3 c4 c5 c6 b0 b1; obtain ⟨c0, c1, c2, c3, c4, c5, c6⟩ := HX7.out.th.one.cells; obtain ⟨b0, b1⟩ := HX7.out.th.balc; simp only at c0 c1 c2 c3 c4 c5 c6)
        | (go_at_call 29; refine (HL.out _).mono ?_; rintro e w8 ⟨rfl, hb⟩; have HX8 := Lib.hid (HX7.out.keep hb); have HO8 := Lib.hid (HO7.out.below hb); clear hb c0 c1 c2 c3 c4 c5 c6 b0 b1; obtain ⟨b0, b1⟩ := HX8.out.th.balc))
      go_upto_region 5 with (refine wpList_store_mid rfl 23 _ _ rfl M 0 #[.int .i64 r, .int .i64 m] rfl rfl (there_two HX8.out.cp.there) sizeBal (bal_one _ _) ?_)
      have HX9 : Hid (Four w w.heap.size M ⟨pr, pm, has, ar, am, val, com⟩ (.slice x L y) r m ⟨r, m, has, ar, am, val, com⟩ (.slice x5 L y5) (w8.setCells M 0 [.int .i64 r, .int .i64 m])) := Lib.hid (HX8.out.turn 0 [.int .i64 r, .int .i64 m] (b' := ⟨r, m, has, ar, am, val, com⟩) (HX8.out.cp.promise r m))
      have HO9 := Lib.hid (far_block (fun g hg => Nat.ne_of_lt (HOb.out g hg)) [.int .i64 r, .int .i64 m] 0 HO8.out)
      clear b0 b1
      generalize w8.setCells M 0 _ = W9 at HX9 HO9 ⊢
      obtain ⟨c0, c1, c2, c3, c4, c5, c6⟩ := HX9.out.cp.cells
      simp only at c0 c1 c2 c3 c4 c5 c6
      go_wp2_with (refine wpList_store_mid rfl 26 _ _ rfl (w.heap.size + 1 + 1) 0 #[.int .i64 r, .int .i64 m, .bool has, .int .i64 ar, .int .i64 am, .string val, .slice x5 L y5] rfl rfl HX9.out.th.two.there sizeAcc (acc_one _ _ _ _ _ _ _ _ _) ?_)
      refine bodyPost_ret (ret_cell_tmp rfl rfl (HX9.out.th.two.put r m has ar am val (.slice x5 L y5)).range Try.underlying26 rfl sizeAcc) rfl ?_
      exact ⟨_, rfl, (far_block (N := w.heap.size + 1 + 1) (fun g hg => by have := (HO9.out.blk g hg).1; omega) _ 0 HO9.out).mono (by omega), Below.setCells HX9.out.th.bel (b := w.heap.size + 1 + 1) (by omega) 0 _⟩
end Go.Proofs.Ytmdipcemhaomhaa.crush
