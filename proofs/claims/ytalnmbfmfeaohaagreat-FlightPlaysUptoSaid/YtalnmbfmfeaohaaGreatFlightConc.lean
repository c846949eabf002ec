/- slices.Grow of nothing, slices.Concat of two rows. -/
import Derived.Test.YtalnmbfmfeaohaaGreatRows
import Derived.Test.YtalnmbfmfeaohaaGreatFlightOrd
import Derived.Test.YtalnmbfmfeaohaaGreatFlightLib
import Derived.Lib.AppendZeros
namespace Go.Proofs.YtalnmbfmfeaohaaGreat.flight
open Go.RowKit
open Go.Proofs.YtalnmbfmfeaohaaGreat.kit Go.Proofs.YtalnmbfmfeaohaaGreat.own
set_option linter.unusedVariables false


set_option maxHeartbeats 4000000 in
set_option maxRecDepth 100000 in
theorem growF_any (n : Nat) (w : World) (hn : n * 40 ≤ 140737488355328) : Calls Tryz.prog 52 #[.slice none 0 0, .int .i64 n] w fun e w' => ∃ v, e = .returned v ∧ Own fc 4 38 w' w.heap.size v [] ∧ Below w.heap.size w w' := by
  rcases Nat.eq_zero_or_pos n with h0 | h0
  · subst h0
    have HR := Lib.hid (Own.nil (enc := fc) (k := 4) w 38 w.heap.size)
    go_enter Tryz.func52, Tryz.ntmps52
    go_wp2
    go_ret
    exact ⟨_, rfl, HR.out, Below.refl _ _⟩
  · obtain ⟨i0, hi, hz0, hz1, hz2⟩ := info_parts infoFrm
    have hrun := fun ty => Lib.run_append_nil_zeros (P := Tryz.prog) w 22 3 ty 38 i0 _ .i64 .i64 Tryz.underlying22 Tryz.underlying3 hi hz0 n h0 (by rw [hz1]; decide) (by omega) (by rw [hz2]; omega)
    obtain ⟨c, hc⟩ : ∃ c, grownCap w n 0 38 = c := ⟨_, rfl⟩
    have hc1 := grownCap_ge w n 0 38
    have hc2 := grownCap_le_maxLen w n 0 38 (by unfold maxLen; omega)
    rw [hc] at hc1 hc2
    simp only [hc] at hrun
    obtain ⟨cur, hcur⟩ : ∃ cur, (Builtin.zeroCells (Value.cells (.agg #[.int .i64 0, .int .i64 0, .int .i64 0, .string { data := #[] }])) n ++ Builtin.zeroCells (Value.cells (.agg #[.int .i64 0, .int .i64 0, .int .i64 0, .string { data := #[] }])) (c - n)) = cur := ⟨_, rfl⟩
    have hsz : cur.size = c * 4 := by
      rw [← hcur, Array.size_append, size_zeroCells, size_zeroCells]
      show n * 4 + (c - n) * 4 = _
      rw [← Nat.add_mul, Nat.add_sub_cancel' hc1]
    have HO : Hid (Own fc 4 38 (w.drew.alloc (.cells cur 38)) w.heap.size (.slice (some ⟨w.heap.size, 0, none⟩) 0 c) []) := Lib.hid ⟨by simp, .inr ⟨w.heap.size, c, cur, rfl, Nat.le_refl _, alloc_at w.drew _, Nat.zero_le _, hc2, hsz, by simp⟩⟩
    have HB : Hid (Below w.heap.size w (w.drew.alloc (.cells cur 38))) := Lib.hid ((below_drew (Below.refl _ w)).alloc (Nat.le_refl _) _)
    rw [hcur] at hrun
    have hpos : (0 : Int) < n := by omega
    have hc0 : (0 : Int) ≤ c := by omega
    clear hi hz0 hz1 hz2 hsz hcur hc hc1 hc2
    go_enter Tryz.func52, Tryz.ntmps52
    go_wp2_with (at_builtin; refine Lib.wpList_append_run _ rfl _ _ 22 3 rfl _ _ rfl rfl _ _ (hrun _) ?_; clear hrun)
    go_ret
    exact ⟨_, rfl, HO.out, HB.out⟩

set_option maxHeartbeats 8000000 in
set_option maxRecDepth 100000 in
/-- 'slices.Concat' of two. -/
theorem concatF_any (b : Nat) (va vb : Value) (xs ys : List Frm) (w : World) (ha : Sl fc 4 w va xs) (hb : Sl fc 4 w vb ys) (h0 : w.cell? ⟨b, 0, none⟩ = some va) (h1 : w.cell? ⟨b, 1, none⟩ = some vb) (hl : (xs.length + ys.length) * 40 ≤ 140737488355328) :
    Calls Tryz.prog 32 #[.slice (some ⟨b, 0, none⟩) 2 2] w fun e w' => ∃ v, e = .returned v ∧ Own fc 4 38 w' w.heap.size v (xs ++ ys) ∧ Below w.heap.size w w' := by
  obtain ⟨a1, c1, rfl⟩ := ha.slice
  obtain ⟨a2, c2, rfl⟩ := hb.slice
  obtain ⟨L1, hL1⟩ : ∃ L, xs.length = L := ⟨_, rfl⟩
  obtain ⟨L2, hL2⟩ : ∃ L, ys.length = L := ⟨_, rfl⟩
  have HL1 := Lib.hid hL1; have HL2 := Lib.hid hL2
  simp only [hL1, hL2] at ha hb h0 h1 hl ⊢
  clear hL1 hL2
  have HA := Lib.hid ha; have HBb := Lib.hid hb; have HLn := Lib.hid hl; have H0 := Lib.hid h0; have H1 := Lib.hid h1
  have hwr : IntKind.i64.wrap ((L1 : Int) + L2) = L1 + L2 := by rw [IntKind.wrap_i64]; omega
  have hwr1 : IntKind.i64.wrap (L1 : Int) = L1 := by rw [IntKind.wrap_i64]; omega
  have n1 : ¬ (L1 : Int) < 0 := by omega
  have n2 : ¬ (L1 : Int) + L2 < 0 := by omega
  have hgr := (growF_any (L1 + L2) w hl)
  have hcast : ((L1 + L2 : Nat) : Int) = (L1 : Int) + L2 := by omega
  rw [hcast] at hgr
  have HG := Lib.hid hgr
  clear ha hb hl hgr hcast
  go_enter Tryz.func32, Tryz.ntmps32
  go_wp2
  refine wp_loop_rounds 3 ?_
  rw [rounds_succ]; go_wp2
  rw [rounds_succ]; go_wp2
  rw [rounds_succ]; go_wp2_with fail
  refine HG.out.mono ?_
  rintro e w2 ⟨v2, rfl, ho2, hb2⟩
  obtain ⟨x2, y2, rfl⟩ := ho2.slice
  have g0 := (hb2.cell (p := ⟨b, 0, none⟩) (cell_lt h0)).trans h0
  have g1 := (hb2.cell (p := ⟨b, 1, none⟩) (cell_lt h1)).trans h1
  have HO2 : Hid (Own fc 4 38 w2 w.heap.size (.slice x2 0 y2) []) := Lib.hid ho2
  have HB2 := Lib.hid hb2
  have HA2 := Lib.hid (HA.out.keep hb2); have HBb2 := Lib.hid (HBb.out.keep hb2)
  have HS0 : Hid (b < w.heap.size) := Lib.hid (cell_lt h0)
  clear h0 h1 ho2 hb2 n1 n2 hwr hwr1
  go_wp2
  refine wp_loop_rounds 3 ?_
  rw [rounds_succ]
  go_wp2_with (at_builtin; refine appSl fc_len fc_one (by decide) rfl _ _ 22 rfl w.heap.size 38 _ (by rfl) 40 Tryz.underlying22 infoFrm _ [] rfl HO2.out _ xs rfl HA2.out (by have := HLn.out; have := HL1.out; unfold maxLen; simp; omega) (by have := HLn.out; have := HL1.out; simp; omega) HB2.out.size ?_; intro v3 w3 ho3 hk3; obtain ⟨x3, y3, rfl⟩ := ho3.slice)
  have g2 := (hk3.toBelow.cell (p := ⟨b, 0, none⟩) HS0.out).trans g0
  have g3 := (hk3.toBelow.cell (p := ⟨b, 1, none⟩) HS0.out).trans g1
  have HO3 : Hid (Own fc 4 38 w3 w.heap.size (.slice x3 L1 y3) xs) := Lib.hid (by rw [← HL1.out]; exact ho3)
  have HB3 := Lib.hid (HB2.out.trans hk3.toBelow)
  have HBb3 := Lib.hid (HBb.out.keep HB3.out)
  have hlen : xs.length = L1 := HL1.out
  rw [hlen]
  clear ho3 hk3 g0 g1 HA2 HBb2 HO2 hlen
  go_wp2
  rw [rounds_succ]
  go_wp2_with (at_builtin; refine appSl fc_len fc_one (by decide) rfl _ _ 22 rfl w.heap.size 38 _ (by rfl) 40 Tryz.underlying22 infoFrm _ xs rfl HO3.out _ ys rfl HBb3.out (by rw [HL1.out, HL2.out]; have := HLn.out; unfold maxLen; omega) (by rw [HL1.out, HL2.out]; exact HLn.out) HB3.out.size ?_; intro v4 w4 ho4 hk4; obtain ⟨x4, y4, rfl⟩ := ho4.slice)
  have HO4 : Hid (Own fc 4 38 w4 w.heap.size (.slice x4 (L1 + L2) y4) (xs ++ ys)) := Lib.hid (by rw [← HL1.out, ← HL2.out, ← List.length_append]; exact ho4)
  have HB4 := Lib.hid (HB3.out.trans hk4.toBelow)
  rw [HL1.out, HL2.out]
  clear ho4 hk4 g2 g3 HO3 HBb3
  go_wp2
  rw [rounds_succ]
  go_wp2
  go_ret
  exact ⟨_, rfl, HO4.out, HB4.out⟩

set_option maxHeartbeats 4000000 in
set_option maxRecDepth 100000 in
theorem growW_any (n : Nat) (w : World) (hn : n * 16 ≤ 140737488355328) : Calls Tryz.prog 64 #[.slice none 0 0, .int .i64 n] w fun e w' => ∃ v, e = .returned v ∧ Own wc 2 40 w' w.heap.size v [] ∧ Below w.heap.size w w' := by
  rcases Nat.eq_zero_or_pos n with h0 | h0
  · subst h0
    have HR := Lib.hid (Own.nil (enc := wc) (k := 2) w 40 w.heap.size)
    go_enter Tryz.func64, Tryz.ntmps64
    go_wp2
    go_ret
    exact ⟨_, rfl, HR.out, Below.refl _ _⟩
  · obtain ⟨i0, hi, hz0, hz1, hz2⟩ := info_parts infoWay
    have hrun := fun ty => Lib.run_append_nil_zeros (P := Tryz.prog) w 23 3 ty 40 i0 _ .i64 .i64 Tryz.underlying23 Tryz.underlying3 hi hz0 n h0 (by rw [hz1]; decide) (by omega) (by rw [hz2]; omega)
    obtain ⟨c, hc⟩ : ∃ c, grownCap w n 0 40 = c := ⟨_, rfl⟩
    have hc1 := grownCap_ge w n 0 40
    have hc2 := grownCap_le_maxLen w n 0 40 (by unfold maxLen; omega)
    rw [hc] at hc1 hc2
    simp only [hc] at hrun
    obtain ⟨cur, hcur⟩ : ∃ cur, (Builtin.zeroCells (Value.cells (.agg #[.int .i64 0, .int .i64 0])) n ++ Builtin.zeroCells (Value.cells (.agg #[.int .i64 0, .int .i64 0])) (c - n)) = cur := ⟨_, rfl⟩
    have hsz : cur.size = c * 2 := by
      rw [← hcur, Array.size_append, size_zeroCells, size_zeroCells]
      show n * 2 + (c - n) * 2 = _
      rw [← Nat.add_mul, Nat.add_sub_cancel' hc1]
    have HO : Hid (Own wc 2 40 (w.drew.alloc (.cells cur 40)) w.heap.size (.slice (some ⟨w.heap.size, 0, none⟩) 0 c) []) := Lib.hid ⟨by simp, .inr ⟨w.heap.size, c, cur, rfl, Nat.le_refl _, alloc_at w.drew _, Nat.zero_le _, hc2, hsz, by simp⟩⟩
    have HB : Hid (Below w.heap.size w (w.drew.alloc (.cells cur 40))) := Lib.hid ((below_drew (Below.refl _ w)).alloc (Nat.le_refl _) _)
    rw [hcur] at hrun
    have hpos : (0 : Int) < n := by omega
    have hc0 : (0 : Int) ≤ c := by omega
    clear hi hz0 hz1 hz2 hsz hcur hc hc1 hc2
    go_enter Tryz.func64, Tryz.ntmps64
    go_wp2_with (at_builtin; refine Lib.wpList_append_run _ rfl _ _ 23 3 rfl _ _ rfl rfl _ _ (hrun _) ?_; clear hrun)
    go_ret
    exact ⟨_, rfl, HO.out, HB.out⟩

set_option maxHeartbeats 8000000 in
set_option maxRecDepth 100000 in
/-- 'slices.Concat' of two. -/
theorem concatW_any (b : Nat) (va vb : Value) (xs ys : List Wy) (w : World) (ha : Sl wc 2 w va xs) (hb : Sl wc 2 w vb ys) (h0 : w.cell? ⟨b, 0, none⟩ = some va) (h1 : w.cell? ⟨b, 1, none⟩ = some vb) (hl : (xs.length + ys.length) * 16 ≤ 140737488355328) :
    Calls Tryz.prog 48 #[.slice (some ⟨b, 0, none⟩) 2 2] w fun e w' => ∃ v, e = .returned v ∧ Own wc 2 40 w' w.heap.size v (xs ++ ys) ∧ Below w.heap.size w w' := by
  obtain ⟨a1, c1, rfl⟩ := ha.slice
  obtain ⟨a2, c2, rfl⟩ := hb.slice
  obtain ⟨L1, hL1⟩ : ∃ L, xs.length = L := ⟨_, rfl⟩
  obtain ⟨L2, hL2⟩ : ∃ L, ys.length = L := ⟨_, rfl⟩
  have HL1 := Lib.hid hL1; have HL2 := Lib.hid hL2
  simp only [hL1, hL2] at ha hb h0 h1 hl ⊢
  clear hL1 hL2
  have HA := Lib.hid ha; have HBb := Lib.hid hb; have HLn := Lib.hid hl; have H0 := Lib.hid h0; have H1 := Lib.hid h1
  have hwr : IntKind.i64.wrap ((L1 : Int) + L2) = L1 + L2 := by rw [IntKind.wrap_i64]; omega
  have hwr1 : IntKind.i64.wrap (L1 : Int) = L1 := by rw [IntKind.wrap_i64]; omega
  have n1 : ¬ (L1 : Int) < 0 := by omega
  have n2 : ¬ (L1 : Int) + L2 < 0 := by omega
  have hgr := (growW_any (L1 + L2) w hl)
  have hcast : ((L1 + L2 : Nat) : Int) = (L1 : Int) + L2 := by omega
  rw [hcast] at hgr
  have HG := Lib.hid hgr
  clear ha hb hl hgr hcast
  go_enter Tryz.func48, Tryz.ntmps48
  go_wp2
  refine wp_loop_rounds 3 ?_
  rw [rounds_succ]; go_wp2
  rw [rounds_succ]; go_wp2
  rw [rounds_succ]; go_wp2_with fail
  refine HG.out.mono ?_
  rintro e w2 ⟨v2, rfl, ho2, hb2⟩
  obtain ⟨x2, y2, rfl⟩ := ho2.slice
  have g0 := (hb2.cell (p := ⟨b, 0, none⟩) (cell_lt h0)).trans h0
  have g1 := (hb2.cell (p := ⟨b, 1, none⟩) (cell_lt h1)).trans h1
  have HO2 : Hid (Own wc 2 40 w2 w.heap.size (.slice x2 0 y2) []) := Lib.hid ho2
  have HB2 := Lib.hid hb2
  have HA2 := Lib.hid (HA.out.keep hb2); have HBb2 := Lib.hid (HBb.out.keep hb2)
  have HS0 : Hid (b < w.heap.size) := Lib.hid (cell_lt h0)
  clear h0 h1 ho2 hb2 n1 n2 hwr hwr1
  go_wp2
  refine wp_loop_rounds 3 ?_
  rw [rounds_succ]
  go_wp2_with (at_builtin; refine appSl wc_len wc_one (by decide) rfl _ _ 23 rfl w.heap.size 40 _ (by rfl) 16 Tryz.underlying23 infoWay _ [] rfl HO2.out _ xs rfl HA2.out (by have := HLn.out; have := HL1.out; unfold maxLen; simp; omega) (by have := HLn.out; have := HL1.out; simp; omega) HB2.out.size ?_; intro v3 w3 ho3 hk3; obtain ⟨x3, y3, rfl⟩ := ho3.slice)
  have g2 := (hk3.toBelow.cell (p := ⟨b, 0, none⟩) HS0.out).trans g0
  have g3 := (hk3.toBelow.cell (p := ⟨b, 1, none⟩) HS0.out).trans g1
  have HO3 : Hid (Own wc 2 40 w3 w.heap.size (.slice x3 L1 y3) xs) := Lib.hid (by rw [← HL1.out]; exact ho3)
  have HB3 := Lib.hid (HB2.out.trans hk3.toBelow)
  have HBb3 := Lib.hid (HBb.out.keep HB3.out)
  have hlen : xs.length = L1 := HL1.out
  rw [hlen]
  clear ho3 hk3 g0 g1 HA2 HBb2 HO2 hlen
  go_wp2
  rw [rounds_succ]
  go_wp2_with (at_builtin; refine appSl wc_len wc_one (by decide) rfl _ _ 23 rfl w.heap.size 40 _ (by rfl) 16 Tryz.underlying23 infoWay _ xs rfl HO3.out _ ys rfl HBb3.out (by rw [HL1.out, HL2.out]; have := HLn.out; unfold maxLen; omega) (by rw [HL1.out, HL2.out]; exact HLn.out) HB3.out.size ?_; intro v4 w4 ho4 hk4; obtain ⟨x4, y4, rfl⟩ := ho4.slice)
  have HO4 : Hid (Own wc 2 40 w4 w.heap.size (.slice x4 (L1 + L2) y4) (xs ++ ys)) := Lib.hid (by rw [← HL1.out, ← HL2.out, ← List.length_append]; exact ho4)
  have HB4 := Lib.hid (HB3.out.trans hk4.toBelow)
  rw [HL1.out, HL2.out]
  clear ho4 hk4 g2 g3 HO3 HBb3
  go_wp2
  rw [rounds_succ]
  go_wp2
  go_ret
  exact ⟨_, rfl, HO4.out, HB4.out⟩

end Go.Proofs.YtalnmbfmfeaohaaGreat.flight
