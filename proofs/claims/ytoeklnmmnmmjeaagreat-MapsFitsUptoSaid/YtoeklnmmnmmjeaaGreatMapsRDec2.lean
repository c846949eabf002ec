/- The document's Decode. -/
import Derived.Test.YtoeklnmmnmmjeaaGreatRows
import Derived.Test.YtoeklnmmnmmjeaaGreatMMc
import Derived.Deep.RegionHeld3
namespace Go.Proofs.YtoeklnmmnmmjeaaGreat.crush
open Go.RowKit
open Go.Proofs.YtoeklnmmnmmjeaaGreat.kit Go.Proofs.YtoeklnmmnmmjeaaGreat.own
open Go.Proofs.YtoeklnmmnmmjeaaGreat.cm (Fld txtN)
open Go.Proofs.YtoeklnmmnmmjeaaGreat.code (SlB rNum rCount numG rField rA fcells infoFz SlK OwnF str_bytes)
set_option linter.unusedVariables false
set_option linter.unusedSimpArgs false

theorem sl_ones (w : World) (e : Nat) : Sl ic 1 (w.alloc (.cells #[.int .i64 1, .int .i64 1, .int .i64 1, .int .i64 1, .int .i64 1, .int .i64 1, .int .i64 1, .int .i64 1] e)) (.slice (some ⟨w.heap.size, 0, none⟩) 8 8) [1, 1, 1, 1, 1, 1, 1, 1] := by
  refine ⟨by simp, _, _, rfl, fun h => (by cases h), fun _ => ⟨w.heap.size, 0, rfl, by simp, fun j hj i u hu => ?_⟩⟩
  match i, hu with
  | 0, hu =>
    rw [World.cell?_alloc_at _ _ _ _ rfl]
    simp [ic] at hu
    subst hu
    have hj8 : j < 8 := hj
    have h8 : j = 0 ∨ j = 1 ∨ j = 2 ∨ j = 3 ∨ j = 4 ∨ j = 5 ∨ j = 6 ∨ j = 7 := by omega
    rcases h8 with rfl | rfl | rfl | rfl | rfl | rfl | rfl | rfl <;> rfl
  | i + 1, hu => simp [ic] at hu

theorem set8_cell {w : World} {M b o : Nat} {v : Value} (h : w.cell? ⟨b, o, none⟩ = some v) (hne : b ≠ M) (vs : List Value) : (w.setCells M 0 vs).cell? ⟨b, o, none⟩ = some v :=
  (World.cell?_of_block (a := ⟨b, o, none⟩) (heap_setCells_other M vs 0 w b hne)).trans h
theorem set8o_cell {w : World} {M b o : Nat} {v : Value} (h : w.cell? ⟨b, o, none⟩ = some v) (hne : b ≠ M) (j : Nat) (vs : List Value) : (w.setCells M j vs).cell? ⟨b, o, none⟩ = some v :=
  (World.cell?_of_block (a := ⟨b, o, none⟩) (heap_setCells_other M vs j w b hne)).trans h
theorem there4 {W : World} {N : Nat} {c : IncV} (h : IBx W N c) : W.there N 4 4 := by
  intro j hj
  have := h.there (4 + j) (by omega)
  simpa using this
theorem sizePool : (Tryz.prog.info? 29).map (·.size) = some 4 := by kernel_rfl
theorem putPool {W : World} {N : Nat} {c : IncV} (h : IBx W N c) (a b p d : Int) : IBx (W.setCells N 4 [.int .i64 a, .int .i64 b, .int .i64 p, .int .i64 d]) N ⟨c.kind, c.osd, c.client, c.num, ⟨a, b, p, d⟩⟩ :=
  heap_setCells N _ [.int .i64 a, .int .i64 b, .int .i64 p, .int .i64 d] 4 W _ h
theorem list8F {α : Type} : ∀ (l : List α), l.length = 8 → ∃ a b c d e f g h, l = [a, b, c, d, e, f, g, h]
  | [a, b, c, d, e, f, g, h], _ => ⟨a, b, c, d, e, f, g, h, rfl⟩
theorem ofFlds {w : World} {a : Option Addr} {c : Nat} {f0 f1 f2 f3 f4 f5 f6 f7 : Fld} (h : Sl fcells 4 w (.slice a 8 c) [f0, f1, f2, f3, f4, f5, f6, f7]) :
    ∃ b off, a = some ⟨b, off, none⟩ ∧ w.cell? ⟨b, off + 1, none⟩ = some (.int .i64 f0.num) ∧ w.cell? ⟨b, off + 4 + 1, none⟩ = some (.int .i64 f1.num) ∧ w.cell? ⟨b, off + 8 + 1, none⟩ = some (.int .i64 f2.num) ∧ w.cell? ⟨b, off + 12 + 1, none⟩ = some (.int .i64 f3.num) ∧
      w.cell? ⟨b, off + 16 + 1, none⟩ = some (.int .i64 f4.num) ∧ w.cell? ⟨b, off + 20 + 1, none⟩ = some (.int .i64 f5.num) ∧ w.cell? ⟨b, off + 24 + 1, none⟩ = some (.int .i64 f6.num) ∧ w.cell? ⟨b, off + 28 + 1, none⟩ = some (.int .i64 f7.num) := by
  obtain ⟨_, a', c', he, -, hcell⟩ := h
  cases he
  obtain ⟨b, off, rfl, hbl, hc⟩ := hcell (by simp)
  exact ⟨b, off, rfl, hc 0 (by simp) 1 _ rfl, hc 1 (by simp) 1 _ rfl, hc 2 (by simp) 1 _ rfl, hc 3 (by simp) 1 _ rfl, hc 4 (by simp) 1 _ rfl, hc 5 (by simp) 1 _ rfl, hc 6 (by simp) 1 _ rfl, hc 7 (by simp) 1 _ rfl⟩
set_option maxHeartbeats 16000000 in
set_option maxRecDepth 100000 in
theorem rDecode_any (s : ByteArray) (hs : s.size ≤ 100000000000) (w : World) : Calls Tryz.prog 13 #[.string s] w (DecS w (decB (txtN s))) := by
  have hb1 := below_new w (.cells #[.int .i64 0, .int .i64 0, .int .i64 0, .int .i64 0, .int .i64 0, .int .i64 0, .int .i64 0, .int .i64 0] 31)
  have HI1 := Lib.hid (ibx_new w incZ)
  have HB1 := Lib.hid hb1
  generalize hW1 : (w.alloc (.cells #[.int .i64 0, .int .i64 0, .int .i64 0, .int .i64 0, .int .i64 0, .int .i64 0, .int .i64 0, .int .i64 0] 31)) = W1 at HB1
  have HI1' := Lib.hid (show IBx W1 w.heap.size incZ from by rw [← hW1]; exact HI1.out)
  obtain ⟨cp, W2, hcv, hsb, hb2⟩ := str_bytes W1 s hs
  have HSB := Lib.hid hsb; have HB2 := Lib.hid hb2
  have HNk := Lib.hid (sl_ones W2 3); have HB3 := Lib.hid (below_new W2 (.cells #[.int .i64 1, .int .i64 1, .int .i64 1, .int .i64 1, .int .i64 1, .int .i64 1, .int .i64 1, .int .i64 1] 3))
  have H8 := Lib.hid (txtN_8 s)
  have HWh := Lib.hid (rWhole_any (.slice (some ⟨W1.heap.size, 0, none⟩) s.size cp) (.slice (some ⟨W2.heap.size, 0, none⟩) 8 8) (txtN s) [1, 1, 1, 1, 1, 1, 1, 1] (W2.alloc (.cells #[.int .i64 1, .int .i64 1, .int .i64 1, .int .i64 1, .int .i64 1, .int .i64 1, .int .i64 1, .int .i64 1] 3)) (HSB.out.keep (row := none) ⟨HB3.out.os, HB3.out.tape, HB3.out.output, HB3.out.size, fun k hk _ => HB3.out.block k hk⟩ (fun b _ e => by cases e)) H8.out HNk.out (by simp) (by decide))
  obtain ⟨R0, hR0⟩ : ∃ R0, rA rField [] [1, 1, 1, 1, 1, 1, 1, 1] (txtN s) = R0 := ⟨_, rfl⟩
  have hdec : decB (txtN s) = decR R0 := by unfold decB; rw [hR0]
  have hlen8 : ∀ fs r, R0 = .ok (fs, r) → fs.length = 8 := fun fs r h => by rw [← hR0] at h; exact rA_len _ _ _ _ _ h
  rw [hdec]
  have HL8 := Lib.hid hlen8
  rw [hR0] at HWh
  clear hb1 hsb hb2 hR0 hdec hlen8 hs HI1 H8 HNk
  go_enter Tryz.func13, Tryz.ntmps13
  cases R0 with
  | error er =>
    go_upto_region 2 with (go_at_call 56; refine HWh.out.mono ?_; rintro e w6 ⟨hb6, rfl, hne⟩)
    have hne' : True → (er != 0) = true := fun _ => by simpa using hne
    clear hne
    have HB26 := Lib.hid (HB2.out.trans ((HB3.out.trans (hb6.mono HB3.out.size)).mono HB2.out.size))
    have HI6 := Lib.hid (HI1'.out.keep HB26.out)
    have HBw6 := Lib.hid (HB1.out.trans (HB26.out.mono HB1.out.size))
    clear hb6 hcv HSB HWh HB3 HB2 HB26
    have hT := HI6.out.there
    have HF := Lib.hid (HI6.out.put incZ)
    have HBf := Lib.hid (Below.setCells HBw6.out (b := w.heap.size) (Nat.le_refl _) 0 (IncV.cells incZ))
    go_wp2_with (refine wpList_store_mid rfl 31 _ _ rfl w.heap.size 0 (IncV.cells incZ).toArray rfl rfl hT sizeInc (all_oneCell_toArray (IncV.one _)) ?_)
    refine bodyPost_ret (ret_cell_tmp rfl rfl HF.out.range Tryz.underlying31 rfl sizeInc) rfl ?_
    exact ⟨rfl, HBf.out⟩
  | ok q =>
    obtain ⟨fs, rr⟩ := q
    cases rr with
    | cons c r =>
      go_upto_region 2 with (go_at_call 56; refine HWh.out.mono ?_; rintro e w6 ⟨hb6, rfl⟩)
      have HB26 := Lib.hid (HB2.out.trans ((HB3.out.trans (hb6.mono HB3.out.size)).mono HB2.out.size))
      have HI6 := Lib.hid (HI1'.out.keep HB26.out)
      have HBw6 := Lib.hid (HB1.out.trans (HB26.out.mono HB1.out.size))
      clear hb6 hcv HSB HWh HB3 HB2 HB26
      have hT := HI6.out.there
      have HF := Lib.hid (HI6.out.put incZ)
      have HBf := Lib.hid (Below.setCells HBw6.out (b := w.heap.size) (Nat.le_refl _) 0 (IncV.cells incZ))
      go_wp2_with (refine wpList_store_mid rfl 31 _ _ rfl w.heap.size 0 (IncV.cells incZ).toArray rfl rfl hT sizeInc (all_oneCell_toArray (IncV.one _)) ?_)
      refine bodyPost_ret (ret_cell_tmp rfl rfl HF.out.range Tryz.underlying31 rfl sizeInc) rfl ?_
      exact ⟨rfl, HBf.out⟩
    | nil =>
      go_upto_region 4 with (go_at_call 56; refine HWh.out.mono ?_; rintro e w6 ⟨hb6, v6, rfl, ho6⟩; obtain ⟨a6, c6, rfl⟩ := (slF_to ho6).slice; have HO6 := Lib.hid ((slF_to ho6).read fcells_len); have hfl := HL8.out fs [] rfl; rw [hfl] at HO6; rw [hfl]; clear ho6)
      have HB26 := Lib.hid (HB2.out.trans ((HB3.out.trans (hb6.mono HB3.out.size)).mono HB2.out.size))
      have HI6 := Lib.hid (HI1'.out.keep HB26.out)
      have HBw6 := Lib.hid (HB1.out.trans (HB26.out.mono HB1.out.size))
      clear hb6 hcv HSB HWh HB3 HB2 HB26
      obtain ⟨f0, f1, f2, f3, f4, f5, f6, f7, rfl⟩ := list8F fs hfl
      have hc := ofFlds HO6.out
      obtain ⟨b, off, rfl, d0, d1, d2, d3, d4, d5, d6, d7⟩ := hc
      have HIn := Lib.hid (fun u => rInc_any ⟨sm f0.num, sm f1.num, sm f2.num, f3.num, ⟨sm f4.num, sm f5.num, sm f6.num, sm f7.num⟩⟩ u)
      have hsm : okInc ⟨sm f0.num, sm f1.num, sm f2.num, f3.num, ⟨sm f4.num, sm f5.num, sm f6.num, sm f7.num⟩⟩ = okInc (incOfL [f0, f1, f2, f3, f4, f5, f6, f7]) := okInc_sm (incOfL [f0, f1, f2, f3, f4, f5, f6, f7])
      have hdr : decR (.ok ([f0, f1, f2, f3, f4, f5, f6, f7], [])) = if okInc (incOfL [f0, f1, f2, f3, f4, f5, f6, f7]) then (0, incOfL [f0, f1, f2, f3, f4, f5, f6, f7]) else (14, incZ) := rfl
      have heq : okInc (incOfL [f0, f1, f2, f3, f4, f5, f6, f7]) = true → (⟨sm f0.num, sm f1.num, sm f2.num, f3.num, ⟨sm f4.num, sm f5.num, sm f6.num, sm f7.num⟩⟩ : IncV) = incOfL [f0, f1, f2, f3, f4, f5, f6, f7] := fun h => smI_low h
      obtain ⟨q, hq⟩ : ∃ q, okInc (incOfL [f0, f1, f2, f3, f4, f5, f6, f7]) = q := ⟨_, rfl⟩
      rw [hsm, hq] at HIn
      rw [hq] at hdr heq
      unfold IncV.val at HIn
      simp only at HIn
      have HDr := Lib.hid hdr; have HEq := Lib.hid heq
      clear hsm hdr heq hq hfl HL8 HO6
      have S0 : w6.drew.cell? ⟨b, off + 1, none⟩ = some (.int .i64 f0.num) ∧ w6.drew.cell? ⟨b, off + 4 + 1, none⟩ = some (.int .i64 f1.num) ∧ w6.drew.cell? ⟨b, off + 8 + 1, none⟩ = some (.int .i64 f2.num) ∧ w6.drew.cell? ⟨b, off + 12 + 1, none⟩ = some (.int .i64 f3.num) := ⟨d0, d1, d2, d3⟩
      have HBz := Lib.hid (below_drew (below_new w6 (.cells #[.int .i64 0, .int .i64 0, .int .i64 0, .int .i64 0, .int .i64 0, .int .i64 0, .int .i64 0, .int .i64 0] 31)))
      have HXz := Lib.hid (show IBx (w6.alloc (.cells #[.int .i64 0, .int .i64 0, .int .i64 0, .int .i64 0, .int .i64 0, .int .i64 0, .int .i64 0, .int .i64 0] 31)).drew w6.heap.size incZ from alloc_at w6 _)
      have S1 := And.intro (cell_keep d0 HBz.out) (And.intro (cell_keep d1 HBz.out) (And.intro (cell_keep d2 HBz.out) (cell_keep d3 HBz.out)))
      have hbne : b ≠ w6.heap.size := by have := cell_ltn d0; omega
      --R4
      refine wp_region_held_drew (S := fun u => u.cell? ⟨b, off + 1, none⟩ = some (.int .i64 f0.num) ∧ u.cell? ⟨b, off + 4 + 1, none⟩ = some (.int .i64 f1.num) ∧ u.cell? ⟨b, off + 8 + 1, none⟩ = some (.int .i64 f2.num) ∧ u.cell? ⟨b, off + 12 + 1, none⟩ = some (.int .i64 f3.num)) (by kernel_rfl) (S0) (fun hHeld => ?_)
      refine wpAnyH_take (i := 0) (oi := { dst := some 17, op := Op.move (Operand.tmp 4), type := 76, pos := "ref.go:215", after := #[], guard := none }) (v := ?_) rfl (by kernel_rfl) (by kernel_rfl) (by kernel_rfl) (fun _ _ _ h => h) (Or.inl ⟨by rfl, ?_⟩) hHeld ?_
      rotate_left 1
      · intro W hSw
        (try dsimp only at hSw)
        go_simp
        try with_reducible rfl
      try simp only [Act.put, List.setIfInBounds_toArray, List.set_cons_zero, List.set_cons_succ]
      refine wpAnyH_take (i := 1) (oi := { dst := some 18, op := Op.indexAddr 76 (Operand.tmp 17) (Operand.const (Value.int IntKind.i64 0)), type := 0, pos := "ref.go:215", after := #[{ on := 0, ground := Ground.data }], guard := none }) (v := ?_) rfl (by kernel_rfl) (by kernel_rfl) (by kernel_rfl) (fun _ _ _ h => h) (Or.inl ⟨by rfl, ?_⟩) hHeld ?_
      rotate_left 1
      · intro W hSw
        (try dsimp only at hSw)
        go_simp
        try with_reducible rfl
      try simp only [Act.put, List.setIfInBounds_toArray, List.set_cons_zero, List.set_cons_succ]
      refine wpAnyH_take (i := 2) (oi := { dst := some 19, op := Op.fieldAddr 86 (Operand.tmp 18) 1, type := 0, pos := "ref.go:215", after := #[{ on := 1, ground := Ground.data }], guard := none }) (v := ?_) rfl (by kernel_rfl) (by kernel_rfl) (by kernel_rfl) (fun _ _ _ h => h) (Or.inl ⟨by rfl, ?_⟩) hHeld ?_
      rotate_left 1
      · intro W hSw
        (try dsimp only at hSw)
        go_simp
        try with_reducible rfl
      try simp only [Act.put, List.setIfInBounds_toArray, List.set_cons_zero, List.set_cons_succ]
      refine wpAnyH_take (i := 3) (oi := { dst := some 20, op := Op.load 2 (Operand.tmp 19), type := 2, pos := "ref.go:215", after := #[{ on := 2, ground := Ground.data }], guard := none }) (v := ?_) rfl (by kernel_rfl) (by kernel_rfl) (by kernel_rfl) (fun _ _ _ h => h) (Or.inl ⟨by rfl, ?_⟩) hHeld ?_
      rotate_left 1
      · intro W hSw
        (try dsimp only at hSw)
        go_simp
        try with_reducible rfl
      try simp only [Act.put, List.setIfInBounds_toArray, List.set_cons_zero, List.set_cons_succ]
      refine wpAnyH_take (i := 5) (oi := { dst := some 22, op := Op.move (Operand.tmp 4), type := 76, pos := "ref.go:215", after := #[], guard := none }) (v := ?_) rfl (by kernel_rfl) (by kernel_rfl) (by kernel_rfl) (fun _ _ _ h => h) (Or.inl ⟨by rfl, ?_⟩) hHeld ?_
      rotate_left 1
      · intro W hSw
        (try dsimp only at hSw)
        go_simp
        try with_reducible rfl
      try simp only [Act.put, List.setIfInBounds_toArray, List.set_cons_zero, List.set_cons_succ]
      refine wpAnyH_take (i := 6) (oi := { dst := some 23, op := Op.indexAddr 76 (Operand.tmp 22) (Operand.const (Value.int IntKind.i64 1)), type := 0, pos := "ref.go:215", after := #[{ on := 5, ground := Ground.data }], guard := none }) (v := ?_) rfl (by kernel_rfl) (by kernel_rfl) (by kernel_rfl) (fun _ _ _ h => h) (Or.inl ⟨by rfl, ?_⟩) hHeld ?_
      rotate_left 1
      · intro W hSw
        (try dsimp only at hSw)
        go_simp
        try with_reducible rfl
      try simp only [Act.put, List.setIfInBounds_toArray, List.set_cons_zero, List.set_cons_succ]
      refine wpAnyH_take (i := 7) (oi := { dst := some 24, op := Op.fieldAddr 86 (Operand.tmp 23) 1, type := 0, pos := "ref.go:215", after := #[{ on := 6, ground := Ground.data }], guard := none }) (v := ?_) rfl (by kernel_rfl) (by kernel_rfl) (by kernel_rfl) (fun _ _ _ h => h) (Or.inl ⟨by rfl, ?_⟩) hHeld ?_
      rotate_left 1
      · intro W hSw
        (try dsimp only at hSw)
        go_simp
        try with_reducible rfl
      try simp only [Act.put, List.setIfInBounds_toArray, List.set_cons_zero, List.set_cons_succ]
      refine wpAnyH_take (i := 8) (oi := { dst := some 25, op := Op.load 2 (Operand.tmp 24), type := 2, pos := "ref.go:215", after := #[{ on := 7, ground := Ground.data }], guard := none }) (v := ?_) rfl (by kernel_rfl) (by kernel_rfl) (by kernel_rfl) (fun _ _ _ h => h) (Or.inl ⟨by rfl, ?_⟩) hHeld ?_
      rotate_left 1
      · intro W hSw
        (try dsimp only at hSw)
        go_simp
        try with_reducible rfl
      try simp only [Act.put, List.setIfInBounds_toArray, List.set_cons_zero, List.set_cons_succ]
      refine wpAnyH_take (i := 10) (oi := { dst := some 27, op := Op.move (Operand.tmp 4), type := 76, pos := "ref.go:215", after := #[], guard := none }) (v := ?_) rfl (by kernel_rfl) (by kernel_rfl) (by kernel_rfl) (fun _ _ _ h => h) (Or.inl ⟨by rfl, ?_⟩) hHeld ?_
      rotate_left 1
      · intro W hSw
        (try dsimp only at hSw)
        go_simp
        try with_reducible rfl
      try simp only [Act.put, List.setIfInBounds_toArray, List.set_cons_zero, List.set_cons_succ]
      refine wpAnyH_take (i := 11) (oi := { dst := some 28, op := Op.indexAddr 76 (Operand.tmp 27) (Operand.const (Value.int IntKind.i64 2)), type := 0, pos := "ref.go:215", after := #[{ on := 10, ground := Ground.data }], guard := none }) (v := ?_) rfl (by kernel_rfl) (by kernel_rfl) (by kernel_rfl) (fun _ _ _ h => h) (Or.inl ⟨by rfl, ?_⟩) hHeld ?_
      rotate_left 1
      · intro W hSw
        (try dsimp only at hSw)
        go_simp
        try with_reducible rfl
      try simp only [Act.put, List.setIfInBounds_toArray, List.set_cons_zero, List.set_cons_succ]
      refine wpAnyH_take (i := 12) (oi := { dst := some 29, op := Op.fieldAddr 86 (Operand.tmp 28) 1, type := 0, pos := "ref.go:215", after := #[{ on := 11, ground := Ground.data }], guard := none }) (v := ?_) rfl (by kernel_rfl) (by kernel_rfl) (by kernel_rfl) (fun _ _ _ h => h) (Or.inl ⟨by rfl, ?_⟩) hHeld ?_
      rotate_left 1
      · intro W hSw
        (try dsimp only at hSw)
        go_simp
        try with_reducible rfl
      try simp only [Act.put, List.setIfInBounds_toArray, List.set_cons_zero, List.set_cons_succ]
      refine wpAnyH_take (i := 13) (oi := { dst := some 30, op := Op.load 2 (Operand.tmp 29), type := 2, pos := "ref.go:215", after := #[{ on := 12, ground := Ground.data }], guard := none }) (v := ?_) rfl (by kernel_rfl) (by kernel_rfl) (by kernel_rfl) (fun _ _ _ h => h) (Or.inl ⟨by rfl, ?_⟩) hHeld ?_
      rotate_left 1
      · intro W hSw
        (try dsimp only at hSw)
        go_simp
        try with_reducible rfl
      try simp only [Act.put, List.setIfInBounds_toArray, List.set_cons_zero, List.set_cons_succ]
      refine wpAnyH_take (i := 15) (oi := { dst := some 32, op := Op.move (Operand.tmp 4), type := 76, pos := "ref.go:215", after := #[], guard := none }) (v := ?_) rfl (by kernel_rfl) (by kernel_rfl) (by kernel_rfl) (fun _ _ _ h => h) (Or.inl ⟨by rfl, ?_⟩) hHeld ?_
      rotate_left 1
      · intro W hSw
        (try dsimp only at hSw)
        go_simp
        try with_reducible rfl
      try simp only [Act.put, List.setIfInBounds_toArray, List.set_cons_zero, List.set_cons_succ]
      refine wpAnyH_take (i := 16) (oi := { dst := some 33, op := Op.indexAddr 76 (Operand.tmp 32) (Operand.const (Value.int IntKind.i64 3)), type := 0, pos := "ref.go:215", after := #[{ on := 15, ground := Ground.data }], guard := none }) (v := ?_) rfl (by kernel_rfl) (by kernel_rfl) (by kernel_rfl) (fun _ _ _ h => h) (Or.inl ⟨by rfl, ?_⟩) hHeld ?_
      rotate_left 1
      · intro W hSw
        (try dsimp only at hSw)
        go_simp
        try with_reducible rfl
      try simp only [Act.put, List.setIfInBounds_toArray, List.set_cons_zero, List.set_cons_succ]
      refine wpAnyH_take (i := 17) (oi := { dst := some 34, op := Op.fieldAddr 86 (Operand.tmp 33) 1, type := 0, pos := "ref.go:215", after := #[{ on := 16, ground := Ground.data }], guard := none }) (v := ?_) rfl (by kernel_rfl) (by kernel_rfl) (by kernel_rfl) (fun _ _ _ h => h) (Or.inl ⟨by rfl, ?_⟩) hHeld ?_
      rotate_left 1
      · intro W hSw
        (try dsimp only at hSw)
        go_simp
        try with_reducible rfl
      try simp only [Act.put, List.setIfInBounds_toArray, List.set_cons_zero, List.set_cons_succ]
      refine wpAnyH_take (i := 18) (oi := { dst := some 35, op := Op.load 2 (Operand.tmp 34), type := 2, pos := "ref.go:215", after := #[{ on := 17, ground := Ground.data }], guard := none }) (v := ?_) rfl (by kernel_rfl) (by kernel_rfl) (by kernel_rfl) (fun _ _ _ h => h) (Or.inl ⟨by rfl, ?_⟩) hHeld ?_
      rotate_left 1
      · intro W hSw
        (try dsimp only at hSw)
        go_simp
        try with_reducible rfl
      try simp only [Act.put, List.setIfInBounds_toArray, List.set_cons_zero, List.set_cons_succ]
      refine wpAnyH_ready (rs := [4, 20]) (by kernel_rfl) (by simp) ?_
      refine AllReadyH.cons (o := { dst := some 21, op := Op.call { callee := Callee.value (Operand.func 57), args := #[Operand.tmp 20], argTypes := #[2] }, type := 3, pos := "ref.go:215", after := #[{ on := 3, ground := Ground.data }], guard := none }) rfl (fun K7 hK7 => ?_) ?_
      · go_simp
        refine (rsmall_any _ _).mono ?_
        rintro e w7 ⟨rfl, rfl⟩
        try dsimp only
        refine hK7.out _ _ (by first | exact S0 | exact S1) (fun hHeld => ?_)
        clear hK7 K7
        try simp only [Act.put, List.setIfInBounds_toArray, List.set_cons_zero, List.set_cons_succ]
        refine wpAnyH_ready (rs := [9, 20]) (by kernel_rfl) (by simp) ?_
        refine AllReadyH.cons (o := { dst := some 26, op := Op.call { callee := Callee.value (Operand.func 57), args := #[Operand.tmp 25], argTypes := #[2] }, type := 3, pos := "ref.go:215", after := #[{ on := 8, ground := Ground.data }, { on := 4, ground := Ground.chain }], guard := none }) rfl (fun K7 hK7 => ?_) ?_
        · go_simp
          refine (rsmall_any _ _).mono ?_
          rintro e w7 ⟨rfl, rfl⟩
          try dsimp only
          refine hK7.out _ _ (by first | exact S0 | exact S1) (fun hHeld => ?_)
          clear hK7 K7
          try simp only [Act.put, List.setIfInBounds_toArray, List.set_cons_zero, List.set_cons_succ]
          refine wpAnyH_ready (rs := [14, 20]) (by kernel_rfl) (by simp) ?_
          refine AllReadyH.cons (o := { dst := some 31, op := Op.call { callee := Callee.value (Operand.func 57), args := #[Operand.tmp 30], argTypes := #[2] }, type := 3, pos := "ref.go:215", after := #[{ on := 13, ground := Ground.data }, { on := 9, ground := Ground.chain }], guard := none }) rfl (fun K7 hK7 => ?_) ?_
          · go_simp
            refine (rsmall_any _ _).mono ?_
            rintro e w7 ⟨rfl, rfl⟩
            try dsimp only
            refine hK7.out _ _ (by first | exact S0 | exact S1) (fun hHeld => ?_)
            clear hK7 K7
            try simp only [Act.put, List.setIfInBounds_toArray, List.set_cons_zero, List.set_cons_succ]
            refine wpAnyH_take (i := 19) (oi := { dst := some 36, op := Op.build 31 #[(0, Operand.tmp 21), (1, Operand.tmp 26), (2, Operand.tmp 31), (3, Operand.tmp 35)], type := 31, pos := "ref.go:215", after := #[{ on := 4, ground := Ground.data }, { on := 9, ground := Ground.data }, { on := 14, ground := Ground.data }, { on := 18, ground := Ground.data }], guard := none }) (v := ?_) rfl (by kernel_rfl) (by kernel_rfl) (by kernel_rfl) (fun _ _ _ h => h) (Or.inl ⟨by rfl, ?_⟩) hHeld ?_
            rotate_left 1
            · intro W hSw
              (try dsimp only at hSw)
              go_simp
              try with_reducible rfl
            try simp only [Act.put, List.setIfInBounds_toArray, List.set_cons_zero, List.set_cons_succ]
            refine wpAnyH_ready (rs := [20]) (by kernel_rfl) (by simp) ?_
            refine AllReadyH.cons (o := { dst := some 6, op := Op.alloc 31, type := 0, pos := "ref.go:215", after := #[], guard := none }) rfl (fun K7 hK7 => ?_) ?_
            · go_simp
              refine hK7.out _ _ (S1) (fun hHeld => ?_)
              clear hK7 K7
              try simp only [Act.put, List.setIfInBounds_toArray, List.set_cons_zero, List.set_cons_succ]
              refine wpAnyH_ready (rs := [21]) (by kernel_rfl) (by simp) ?_
              refine AllReadyH.cons (o := { dst := none, op := Op.store 31 (Operand.tmp 6) (Operand.tmp 36), type := 0, pos := "ref.go:215", after := #[{ on := 20, ground := Ground.data }, { on := 19, ground := Ground.data }, { on := 14, ground := Ground.chain }, { on := 0, ground := Ground.phase }, { on := 1, ground := Ground.phase }, { on := 2, ground := Ground.phase }, { on := 3, ground := Ground.phase }, { on := 4, ground := Ground.phase }, { on := 5, ground := Ground.phase }, { on := 6, ground := Ground.phase }, { on := 7, ground := Ground.phase }, { on := 8, ground := Ground.phase }, { on := 9, ground := Ground.phase }, { on := 10, ground := Ground.phase }, { on := 11, ground := Ground.phase }, { on := 12, ground := Ground.phase }, { on := 13, ground := Ground.phase }, { on := 14, ground := Ground.phase }, { on := 15, ground := Ground.phase }, { on := 16, ground := Ground.phase }, { on := 17, ground := Ground.phase }, { on := 18, ground := Ground.phase }, { on := 19, ground := Ground.phase }, { on := 20, ground := Ground.phase }], guard := none }) rfl (fun K7 hK7 => ?_) ?_
              · refine wp_store_mid 31 _ _ rfl w6.heap.size 0 #[.int .i64 (sm f0.num), .int .i64 (sm f1.num), .int .i64 (sm f2.num), .int .i64 f3.num, .int .i64 0, .int .i64 0, .int .i64 0, .int .i64 0] rfl rfl HXz.out.there sizeInc (by simp [Value.oneCell']) ?_
                refine hK7.out _ _ (⟨(set8_cell S1.1 hbne _), (set8_cell S1.2.1 hbne _), (set8_cell S1.2.2.1 hbne _), (set8_cell S1.2.2.2 hbne _)⟩) (fun hHeld => ?_)
                clear hK7 K7
                try simp only [Act.put, List.setIfInBounds_toArray, List.set_cons_zero, List.set_cons_succ]
                refine wpAnyH_done (by kernel_rfl) ?_ _
                clear hHeld
                have HX7 := Lib.hid (show IBx ((w6.alloc (.cells #[.int .i64 0, .int .i64 0, .int .i64 0, .int .i64 0, .int .i64 0, .int .i64 0, .int .i64 0, .int .i64 0] 31)).drew.setCells w6.heap.size 0 #[.int .i64 (sm f0.num), .int .i64 (sm f1.num), .int .i64 (sm f2.num), .int .i64 f3.num, .int .i64 0, .int .i64 0, .int .i64 0, .int .i64 0].toList) w6.heap.size ⟨sm f0.num, sm f1.num, sm f2.num, f3.num, ⟨0, 0, 0, 0⟩⟩ from HXz.out.put ⟨sm f0.num, sm f1.num, sm f2.num, f3.num, ⟨0, 0, 0, 0⟩⟩)
                have HB7 := Lib.hid (show Below w6.heap.size w6 ((w6.alloc (.cells #[.int .i64 0, .int .i64 0, .int .i64 0, .int .i64 0, .int .i64 0, .int .i64 0, .int .i64 0, .int .i64 0] 31)).drew.setCells w6.heap.size 0 #[.int .i64 (sm f0.num), .int .i64 (sm f1.num), .int .i64 (sm f2.num), .int .i64 f3.num, .int .i64 0, .int .i64 0, .int .i64 0, .int .i64 0].toList) from Below.setCells HBz.out (Nat.le_refl _) 0 _)
                clear S0 S1 HBz HXz
                generalize (w6.alloc (.cells #[.int .i64 0, .int .i64 0, .int .i64 0, .int .i64 0, .int .i64 0, .int .i64 0, .int .i64 0, .int .i64 0] 31)).drew.setCells w6.heap.size 0 #[.int .i64 (sm f0.num), .int .i64 (sm f1.num), .int .i64 (sm f2.num), .int .i64 f3.num, .int .i64 0, .int .i64 0, .int .i64 0, .int .i64 0].toList = W7 at HX7 HB7 ⊢
                go_upto_region 5 with fail
                have S50 : W7.drew.cell? ⟨b, off + 16 + 1, none⟩ = some (.int .i64 f4.num) ∧ W7.drew.cell? ⟨b, off + 20 + 1, none⟩ = some (.int .i64 f5.num) ∧ W7.drew.cell? ⟨b, off + 24 + 1, none⟩ = some (.int .i64 f6.num) ∧ W7.drew.cell? ⟨b, off + 28 + 1, none⟩ = some (.int .i64 f7.num) := ⟨cell_keep d4 (below_drew HB7.out), cell_keep d5 (below_drew HB7.out), cell_keep d6 (below_drew HB7.out), cell_keep d7 (below_drew HB7.out)⟩
                have HX7d := Lib.hid (show IBx W7.drew w6.heap.size _ from HX7.out)
                refine wp_region_held_drew (S := fun u => u.cell? ⟨b, off + 16 + 1, none⟩ = some (.int .i64 f4.num) ∧ u.cell? ⟨b, off + 20 + 1, none⟩ = some (.int .i64 f5.num) ∧ u.cell? ⟨b, off + 24 + 1, none⟩ = some (.int .i64 f6.num) ∧ u.cell? ⟨b, off + 28 + 1, none⟩ = some (.int .i64 f7.num)) (by kernel_rfl) (S50) (fun hHeld => ?_)
                refine wpAnyH_take (i := 0) (oi := { dst := some 37, op := Op.move (Operand.tmp 4), type := 76, pos := "ref.go:216", after := #[], guard := none }) (v := ?_) rfl (by kernel_rfl) (by kernel_rfl) (by kernel_rfl) (fun _ _ _ h => h) (Or.inl ⟨by rfl, ?_⟩) hHeld ?_
                rotate_left 1
                · intro W hSw
                  (try dsimp only at hSw)
                  go_simp
                  try with_reducible rfl
                try simp only [Act.put, List.setIfInBounds_toArray, List.set_cons_zero, List.set_cons_succ]
                refine wpAnyH_take (i := 1) (oi := { dst := some 38, op := Op.indexAddr 76 (Operand.tmp 37) (Operand.const (Value.int IntKind.i64 4)), type := 0, pos := "ref.go:216", after := #[{ on := 0, ground := Ground.data }], guard := none }) (v := ?_) rfl (by kernel_rfl) (by kernel_rfl) (by kernel_rfl) (fun _ _ _ h => h) (Or.inl ⟨by rfl, ?_⟩) hHeld ?_
                rotate_left 1
                · intro W hSw
                  (try dsimp only at hSw)
                  go_simp
                  try with_reducible rfl
                try simp only [Act.put, List.setIfInBounds_toArray, List.set_cons_zero, List.set_cons_succ]
                refine wpAnyH_take (i := 2) (oi := { dst := some 39, op := Op.fieldAddr 86 (Operand.tmp 38) 1, type := 0, pos := "ref.go:216", after := #[{ on := 1, ground := Ground.data }], guard := none }) (v := ?_) rfl (by kernel_rfl) (by kernel_rfl) (by kernel_rfl) (fun _ _ _ h => h) (Or.inl ⟨by rfl, ?_⟩) hHeld ?_
                rotate_left 1
                · intro W hSw
                  (try dsimp only at hSw)
                  go_simp
                  try with_reducible rfl
                try simp only [Act.put, List.setIfInBounds_toArray, List.set_cons_zero, List.set_cons_succ]
                refine wpAnyH_take (i := 3) (oi := { dst := some 40, op := Op.load 2 (Operand.tmp 39), type := 2, pos := "ref.go:216", after := #[{ on := 2, ground := Ground.data }], guard := none }) (v := ?_) rfl (by kernel_rfl) (by kernel_rfl) (by kernel_rfl) (fun _ _ _ h => h) (Or.inl ⟨by rfl, ?_⟩) hHeld ?_
                rotate_left 1
                · intro W hSw
                  (try dsimp only at hSw)
                  go_simp
                  try with_reducible rfl
                try simp only [Act.put, List.setIfInBounds_toArray, List.set_cons_zero, List.set_cons_succ]
                refine wpAnyH_take (i := 5) (oi := { dst := some 42, op := Op.move (Operand.tmp 4), type := 76, pos := "ref.go:216", after := #[], guard := none }) (v := ?_) rfl (by kernel_rfl) (by kernel_rfl) (by kernel_rfl) (fun _ _ _ h => h) (Or.inl ⟨by rfl, ?_⟩) hHeld ?_
                rotate_left 1
                · intro W hSw
                  (try dsimp only at hSw)
                  go_simp
                  try with_reducible rfl
                try simp only [Act.put, List.setIfInBounds_toArray, List.set_cons_zero, List.set_cons_succ]
                refine wpAnyH_take (i := 6) (oi := { dst := some 43, op := Op.indexAddr 76 (Operand.tmp 42) (Operand.const (Value.int IntKind.i64 5)), type := 0, pos := "ref.go:216", after := #[{ on := 5, ground := Ground.data }], guard := none }) (v := ?_) rfl (by kernel_rfl) (by kernel_rfl) (by kernel_rfl) (fun _ _ _ h => h) (Or.inl ⟨by rfl, ?_⟩) hHeld ?_
                rotate_left 1
                · intro W hSw
                  (try dsimp only at hSw)
                  go_simp
                  try with_reducible rfl
                try simp only [Act.put, List.setIfInBounds_toArray, List.set_cons_zero, List.set_cons_succ]
                refine wpAnyH_take (i := 7) (oi := { dst := some 44, op := Op.fieldAddr 86 (Operand.tmp 43) 1, type := 0, pos := "ref.go:216", after := #[{ on := 6, ground := Ground.data }], guard := none }) (v := ?_) rfl (by kernel_rfl) (by kernel_rfl) (by kernel_rfl) (fun _ _ _ h => h) (Or.inl ⟨by rfl, ?_⟩) hHeld ?_
                rotate_left 1
                · intro W hSw
                  (try dsimp only at hSw)
                  go_simp
                  try with_reducible rfl
                try simp only [Act.put, List.setIfInBounds_toArray, List.set_cons_zero, List.set_cons_succ]
                refine wpAnyH_take (i := 8) (oi := { dst := some 45, op := Op.load 2 (Operand.tmp 44), type := 2, pos := "ref.go:216", after := #[{ on := 7, ground := Ground.data }], guard := none }) (v := ?_) rfl (by kernel_rfl) (by kernel_rfl) (by kernel_rfl) (fun _ _ _ h => h) (Or.inl ⟨by rfl, ?_⟩) hHeld ?_
                rotate_left 1
                · intro W hSw
                  (try dsimp only at hSw)
                  go_simp
                  try with_reducible rfl
                try simp only [Act.put, List.setIfInBounds_toArray, List.set_cons_zero, List.set_cons_succ]
                refine wpAnyH_take (i := 10) (oi := { dst := some 47, op := Op.move (Operand.tmp 4), type := 76, pos := "ref.go:216", after := #[], guard := none }) (v := ?_) rfl (by kernel_rfl) (by kernel_rfl) (by kernel_rfl) (fun _ _ _ h => h) (Or.inl ⟨by rfl, ?_⟩) hHeld ?_
                rotate_left 1
                · intro W hSw
                  (try dsimp only at hSw)
                  go_simp
                  try with_reducible rfl
                try simp only [Act.put, List.setIfInBounds_toArray, List.set_cons_zero, List.set_cons_succ]
                refine wpAnyH_take (i := 11) (oi := { dst := some 48, op := Op.indexAddr 76 (Operand.tmp 47) (Operand.const (Value.int IntKind.i64 6)), type := 0, pos := "ref.go:216", after := #[{ on := 10, ground := Ground.data }], guard := none }) (v := ?_) rfl (by kernel_rfl) (by kernel_rfl) (by kernel_rfl) (fun _ _ _ h => h) (Or.inl ⟨by rfl, ?_⟩) hHeld ?_
                rotate_left 1
                · intro W hSw
                  (try dsimp only at hSw)
                  go_simp
                  try with_reducible rfl
                try simp only [Act.put, List.setIfInBounds_toArray, List.set_cons_zero, List.set_cons_succ]
                refine wpAnyH_take (i := 12) (oi := { dst := some 49, op := Op.fieldAddr 86 (Operand.tmp 48) 1, type := 0, pos := "ref.go:216", after := #[{ on := 11, ground := Ground.data }], guard := none }) (v := ?_) rfl (by kernel_rfl) (by kernel_rfl) (by kernel_rfl) (fun _ _ _ h => h) (Or.inl ⟨by rfl, ?_⟩) hHeld ?_
                rotate_left 1
                · intro W hSw
                  (try dsimp only at hSw)
                  go_simp
                  try with_reducible rfl
                try simp only [Act.put, List.setIfInBounds_toArray, List.set_cons_zero, List.set_cons_succ]
                refine wpAnyH_take (i := 13) (oi := { dst := some 50, op := Op.load 2 (Operand.tmp 49), type := 2, pos := "ref.go:216", after := #[{ on := 12, ground := Ground.data }], guard := none }) (v := ?_) rfl (by kernel_rfl) (by kernel_rfl) (by kernel_rfl) (fun _ _ _ h => h) (Or.inl ⟨by rfl, ?_⟩) hHeld ?_
                rotate_left 1
                · intro W hSw
                  (try dsimp only at hSw)
                  go_simp
                  try with_reducible rfl
                try simp only [Act.put, List.setIfInBounds_toArray, List.set_cons_zero, List.set_cons_succ]
                refine wpAnyH_take (i := 15) (oi := { dst := some 52, op := Op.move (Operand.tmp 4), type := 76, pos := "ref.go:216", after := #[], guard := none }) (v := ?_) rfl (by kernel_rfl) (by kernel_rfl) (by kernel_rfl) (fun _ _ _ h => h) (Or.inl ⟨by rfl, ?_⟩) hHeld ?_
                rotate_left 1
                · intro W hSw
                  (try dsimp only at hSw)
                  go_simp
                  try with_reducible rfl
                try simp only [Act.put, List.setIfInBounds_toArray, List.set_cons_zero, List.set_cons_succ]
                refine wpAnyH_take (i := 16) (oi := { dst := some 53, op := Op.indexAddr 76 (Operand.tmp 52) (Operand.const (Value.int IntKind.i64 7)), type := 0, pos := "ref.go:216", after := #[{ on := 15, ground := Ground.data }], guard := none }) (v := ?_) rfl (by kernel_rfl) (by kernel_rfl) (by kernel_rfl) (fun _ _ _ h => h) (Or.inl ⟨by rfl, ?_⟩) hHeld ?_
                rotate_left 1
                · intro W hSw
                  (try dsimp only at hSw)
                  go_simp
                  try with_reducible rfl
                try simp only [Act.put, List.setIfInBounds_toArray, List.set_cons_zero, List.set_cons_succ]
                refine wpAnyH_take (i := 17) (oi := { dst := some 54, op := Op.fieldAddr 86 (Operand.tmp 53) 1, type := 0, pos := "ref.go:216", after := #[{ on := 16, ground := Ground.data }], guard := none }) (v := ?_) rfl (by kernel_rfl) (by kernel_rfl) (by kernel_rfl) (fun _ _ _ h => h) (Or.inl ⟨by rfl, ?_⟩) hHeld ?_
                rotate_left 1
                · intro W hSw
                  (try dsimp only at hSw)
                  go_simp
                  try with_reducible rfl
                try simp only [Act.put, List.setIfInBounds_toArray, List.set_cons_zero, List.set_cons_succ]
                refine wpAnyH_take (i := 18) (oi := { dst := some 55, op := Op.load 2 (Operand.tmp 54), type := 2, pos := "ref.go:216", after := #[{ on := 17, ground := Ground.data }], guard := none }) (v := ?_) rfl (by kernel_rfl) (by kernel_rfl) (by kernel_rfl) (fun _ _ _ h => h) (Or.inl ⟨by rfl, ?_⟩) hHeld ?_
                rotate_left 1
                · intro W hSw
                  (try dsimp only at hSw)
                  go_simp
                  try with_reducible rfl
                try simp only [Act.put, List.setIfInBounds_toArray, List.set_cons_zero, List.set_cons_succ]
                refine wpAnyH_ready (rs := [4]) (by kernel_rfl) (by simp) ?_
                refine AllReadyH.cons (o := { dst := some 41, op := Op.call { callee := Callee.value (Operand.func 57), args := #[Operand.tmp 40], argTypes := #[2] }, type := 3, pos := "ref.go:216", after := #[{ on := 3, ground := Ground.data }], guard := none }) rfl (fun K7 hK7 => ?_) ?_
                · go_simp
                  refine (rsmall_any _ _).mono ?_
                  rintro e w7 ⟨rfl, rfl⟩
                  try dsimp only
                  refine hK7.out _ _ (S50) (fun hHeld => ?_)
                  clear hK7 K7
                  try simp only [Act.put, List.setIfInBounds_toArray, List.set_cons_zero, List.set_cons_succ]
                  refine wpAnyH_ready (rs := [9]) (by kernel_rfl) (by simp) ?_
                  refine AllReadyH.cons (o := { dst := some 46, op := Op.call { callee := Callee.value (Operand.func 57), args := #[Operand.tmp 45], argTypes := #[2] }, type := 3, pos := "ref.go:216", after := #[{ on := 8, ground := Ground.data }, { on := 4, ground := Ground.chain }], guard := none }) rfl (fun K7 hK7 => ?_) ?_
                  · go_simp
                    refine (rsmall_any _ _).mono ?_
                    rintro e w7 ⟨rfl, rfl⟩
                    try dsimp only
                    refine hK7.out _ _ (S50) (fun hHeld => ?_)
                    clear hK7 K7
                    try simp only [Act.put, List.setIfInBounds_toArray, List.set_cons_zero, List.set_cons_succ]
                    refine wpAnyH_ready (rs := [14]) (by kernel_rfl) (by simp) ?_
                    refine AllReadyH.cons (o := { dst := some 51, op := Op.call { callee := Callee.value (Operand.func 57), args := #[Operand.tmp 50], argTypes := #[2] }, type := 3, pos := "ref.go:216", after := #[{ on := 13, ground := Ground.data }, { on := 9, ground := Ground.chain }], guard := none }) rfl (fun K7 hK7 => ?_) ?_
                    · go_simp
                      refine (rsmall_any _ _).mono ?_
                      rintro e w7 ⟨rfl, rfl⟩
                      try dsimp only
                      refine hK7.out _ _ (S50) (fun hHeld => ?_)
                      clear hK7 K7
                      try simp only [Act.put, List.setIfInBounds_toArray, List.set_cons_zero, List.set_cons_succ]
                      refine wpAnyH_ready (rs := [19]) (by kernel_rfl) (by simp) ?_
                      refine AllReadyH.cons (o := { dst := some 56, op := Op.call { callee := Callee.value (Operand.func 57), args := #[Operand.tmp 55], argTypes := #[2] }, type := 3, pos := "ref.go:216", after := #[{ on := 18, ground := Ground.data }, { on := 14, ground := Ground.chain }], guard := none }) rfl (fun K7 hK7 => ?_) ?_
                      · go_simp
                        refine (rsmall_any _ _).mono ?_
                        rintro e w7 ⟨rfl, rfl⟩
                        try dsimp only
                        refine hK7.out _ _ (S50) (fun hHeld => ?_)
                        clear hK7 K7
                        try simp only [Act.put, List.setIfInBounds_toArray, List.set_cons_zero, List.set_cons_succ]
                        refine wpAnyH_take (i := 20) (oi := { dst := some 57, op := Op.build 29 #[(0, Operand.tmp 41), (1, Operand.tmp 46), (2, Operand.tmp 51), (3, Operand.tmp 56)], type := 29, pos := "ref.go:216", after := #[{ on := 4, ground := Ground.data }, { on := 9, ground := Ground.data }, { on := 14, ground := Ground.data }, { on := 19, ground := Ground.data }], guard := none }) (v := ?_) rfl (by kernel_rfl) (by kernel_rfl) (by kernel_rfl) (fun _ _ _ h => h) (Or.inl ⟨by rfl, ?_⟩) hHeld ?_
                        rotate_left 1
                        · intro W hSw
                          (try dsimp only at hSw)
                          go_simp
                          try with_reducible rfl
                        try simp only [Act.put, List.setIfInBounds_toArray, List.set_cons_zero, List.set_cons_succ]
                        refine wpAnyH_take (i := 21) (oi := { dst := some 58, op := Op.fieldAddr 31 (Operand.tmp 6) 4, type := 0, pos := "ref.go:216", after := #[{ on := 0, ground := Ground.phase }, { on := 1, ground := Ground.phase }, { on := 2, ground := Ground.phase }, { on := 3, ground := Ground.phase }, { on := 4, ground := Ground.phase }, { on := 5, ground := Ground.phase }, { on := 6, ground := Ground.phase }, { on := 7, ground := Ground.phase }, { on := 8, ground := Ground.phase }, { on := 9, ground := Ground.phase }, { on := 10, ground := Ground.phase }, { on := 11, ground := Ground.phase }, { on := 12, ground := Ground.phase }, { on := 13, ground := Ground.phase }, { on := 14, ground := Ground.phase }, { on := 15, ground := Ground.phase }, { on := 16, ground := Ground.phase }, { on := 17, ground := Ground.phase }, { on := 18, ground := Ground.phase }, { on := 19, ground := Ground.phase }, { on := 20, ground := Ground.phase }], guard := none }) (v := ?_) rfl (by kernel_rfl) (by kernel_rfl) (by kernel_rfl) (fun _ _ _ h => h) (Or.inl ⟨by rfl, ?_⟩) hHeld ?_
                        rotate_left 1
                        · intro W hSw
                          (try dsimp only at hSw)
                          go_simp
                          try with_reducible rfl
                        try simp only [Act.put, List.setIfInBounds_toArray, List.set_cons_zero, List.set_cons_succ]
                        refine wpAnyH_ready (rs := [22]) (by kernel_rfl) (by simp) ?_
                        refine AllReadyH.cons (o := { dst := none, op := Op.store 29 (Operand.tmp 58) (Operand.tmp 57), type := 0, pos := "ref.go:216", after := #[{ on := 21, ground := Ground.data }, { on := 20, ground := Ground.data }, { on := 19, ground := Ground.chain }, { on := 0, ground := Ground.phase }, { on := 1, ground := Ground.phase }, { on := 2, ground := Ground.phase }, { on := 3, ground := Ground.phase }, { on := 4, ground := Ground.phase }, { on := 5, ground := Ground.phase }, { on := 6, ground := Ground.phase }, { on := 7, ground := Ground.phase }, { on := 8, ground := Ground.phase }, { on := 9, ground := Ground.phase }, { on := 10, ground := Ground.phase }, { on := 11, ground := Ground.phase }, { on := 12, ground := Ground.phase }, { on := 13, ground := Ground.phase }, { on := 14, ground := Ground.phase }, { on := 15, ground := Ground.phase }, { on := 16, ground := Ground.phase }, { on := 17, ground := Ground.phase }, { on := 18, ground := Ground.phase }, { on := 19, ground := Ground.phase }, { on := 20, ground := Ground.phase }], guard := none }) rfl (fun K7 hK7 => ?_) ?_
                        · refine wp_store_mid 29 _ _ rfl w6.heap.size 4 #[.int .i64 (sm f4.num), .int .i64 (sm f5.num), .int .i64 (sm f6.num), .int .i64 (sm f7.num)] rfl rfl (there4 HX7d.out) sizePool (by simp [Value.oneCell']) ?_
                          refine hK7.out _ _ (⟨(set8o_cell S50.1 hbne 4 _), (set8o_cell S50.2.1 hbne 4 _), (set8o_cell S50.2.2.1 hbne 4 _), (set8o_cell S50.2.2.2 hbne 4 _)⟩) (fun hHeld => ?_)
                          clear hK7 K7
                          try simp only [Act.put, List.setIfInBounds_toArray, List.set_cons_zero, List.set_cons_succ]
                          refine wpAnyH_done (by kernel_rfl) ?_ _
                          clear hHeld
                          have HX8 := Lib.hid (show IBx (W7.drew.setCells w6.heap.size 4 #[.int .i64 (sm f4.num), .int .i64 (sm f5.num), .int .i64 (sm f6.num), .int .i64 (sm f7.num)].toList) w6.heap.size ⟨sm f0.num, sm f1.num, sm f2.num, f3.num, ⟨sm f4.num, sm f5.num, sm f6.num, sm f7.num⟩⟩ from putPool HX7d.out _ _ _ _)
                          have HB8 := Lib.hid (show Below w.heap.size w (W7.drew.setCells w6.heap.size 4 #[.int .i64 (sm f4.num), .int .i64 (sm f5.num), .int .i64 (sm f6.num), .int .i64 (sm f7.num)].toList) from HBw6.out.trans ((show Below w6.heap.size w6 _ from Below.setCells (show Below w6.heap.size w6 W7.drew from below_drew HB7.out) (Nat.le_refl _) 4 _).mono HBw6.out.size))
                          have HI8 := Lib.hid (show IBx (W7.drew.setCells w6.heap.size 4 #[.int .i64 (sm f4.num), .int .i64 (sm f5.num), .int .i64 (sm f6.num), .int .i64 (sm f7.num)].toList) w.heap.size incZ from HI6.out.keep (show Below w6.heap.size w6 _ from Below.setCells (show Below w6.heap.size w6 W7.drew from below_drew HB7.out) (Nat.le_refl _) 4 _))
                          clear S50 HX7d HX7 HB7
                          generalize W7.drew.setCells w6.heap.size 4 #[.int .i64 (sm f4.num), .int .i64 (sm f5.num), .int .i64 (sm f6.num), .int .i64 (sm f7.num)].toList = W8 at HX8 HB8 HI8 ⊢
                          obtain ⟨M, hM⟩ : ∃ M, w6.heap.size = M := ⟨_, rfl⟩
                          rw [hM] at HX8 ⊢
                          clear hM
                          obtain ⟨c0, c1, c2, c3, c4, c5, c6, c7⟩ := HX8.out.cells
                          simp only at c0 c1 c2 c3 c4 c5 c6 c7
                          cases q with
                          | false =>
                            go_wp2_with (first
                              | (go_at_call 21; refine (HIn.out _).mono ?_; rintro e w9 ⟨rfl, hb⟩; have HB9 := Lib.hid (HB8.out.trans (hb.mono HB8.out.size)); have HI9 := Lib.hid (HI8.out.keep hb); clear hb c0 c1 c2 c3 c4 c5 c6 c7)
                              | (refine wpList_store_mid rfl 31 _ _ rfl w.heap.size 0 (IncV.cells incZ).toArray rfl rfl HI9.out.there sizeInc (all_oneCell_toArray (IncV.one _)) ?_))
                            refine bodyPost_ret (ret_cell_tmp rfl rfl (HI9.out.put incZ).range Tryz.underlying31 rfl sizeInc) rfl ?_
                            rw [HDr.out]
                            exact ⟨rfl, Below.setCells HB9.out (b := w.heap.size) (Nat.le_refl _) 0 (IncV.cells incZ)⟩
                          | true =>
                            go_wp2_with (first
                              | (go_at_call 21; refine (HIn.out _).mono ?_; rintro e w9 ⟨rfl, hb⟩; have HB9 := Lib.hid (HB8.out.trans (hb.mono HB8.out.size)); have HI9 := Lib.hid (HI8.out.keep hb); clear c0 c1 c2 c3 c4 c5 c6 c7; obtain ⟨c0, c1, c2, c3, c4, c5, c6, c7⟩ := (HX8.out.keep hb).cells; simp only at c0 c1 c2 c3 c4 c5 c6 c7; clear hb)
                              | (refine wpList_store_mid rfl 31 _ _ rfl w.heap.size 0 (IncV.cells ⟨sm f0.num, sm f1.num, sm f2.num, f3.num, ⟨sm f4.num, sm f5.num, sm f6.num, sm f7.num⟩⟩).toArray rfl rfl HI9.out.there sizeInc (all_oneCell_toArray (IncV.one _)) ?_; clear c0 c1 c2 c3 c4 c5 c6 c7))
                            refine bodyPost_ret (ret_cell_tmp rfl rfl (HI9.out.put ⟨sm f0.num, sm f1.num, sm f2.num, f3.num, ⟨sm f4.num, sm f5.num, sm f6.num, sm f7.num⟩⟩).range Tryz.underlying31 rfl sizeInc) rfl ?_
                            rw [HDr.out, if_pos trivial, ← HEq.out (by first | rfl | trivial)]
                            exact ⟨rfl, Below.setCells HB9.out (b := w.heap.size) (Nat.le_refl _) 0 (IncV.cells ⟨sm f0.num, sm f1.num, sm f2.num, f3.num, ⟨sm f4.num, sm f5.num, sm f6.num, sm f7.num⟩⟩)⟩
                        exact AllReadyH.nil
                      exact AllReadyH.nil
                    exact AllReadyH.nil
                  exact AllReadyH.nil
                exact AllReadyH.nil
              exact AllReadyH.nil
            exact AllReadyH.nil
          refine AllReadyH.cons (o := { dst := some 6, op := Op.alloc 31, type := 0, pos := "ref.go:215", after := #[], guard := none }) rfl (fun K7 hK7 => ?_) ?_
          · go_simp
            refine hK7.out _ _ (S1) (fun hHeld => ?_)
            clear hK7 K7
            try simp only [Act.put, List.setIfInBounds_toArray, List.set_cons_zero, List.set_cons_succ]
            refine wpAnyH_ready (rs := [14]) (by kernel_rfl) (by simp) ?_
            refine AllReadyH.cons (o := { dst := some 31, op := Op.call { callee := Callee.value (Operand.func 57), args := #[Operand.tmp 30], argTypes := #[2] }, type := 3, pos := "ref.go:215", after := #[{ on := 13, ground := Ground.data }, { on := 9, ground := Ground.chain }], guard := none }) rfl (fun K7 hK7 => ?_) ?_
            · go_simp
              refine (rsmall_any _ _).mono ?_
              rintro e w7 ⟨rfl, rfl⟩
              try dsimp only
              refine hK7.out _ _ (by first | exact S0 | exact S1) (fun hHeld => ?_)
              clear hK7 K7
              try simp only [Act.put, List.setIfInBounds_toArray, List.set_cons_zero, List.set_cons_succ]
              refine wpAnyH_take (i := 19) (oi := { dst := some 36, op := Op.build 31 #[(0, Operand.tmp 21), (1, Operand.tmp 26), (2, Operand.tmp 31), (3, Operand.tmp 35)], type := 31, pos := "ref.go:215", after := #[{ on := 4, ground := Ground.data }, { on := 9, ground := Ground.data }, { on := 14, ground := Ground.data }, { on := 18, ground := Ground.data }], guard := none }) (v := ?_) rfl (by kernel_rfl) (by kernel_rfl) (by kernel_rfl) (fun _ _ _ h => h) (Or.inl ⟨by rfl, ?_⟩) hHeld ?_
              rotate_left 1
              · intro W hSw
                (try dsimp only at hSw)
                go_simp
                try with_reducible rfl
              try simp only [Act.put, List.setIfInBounds_toArray, List.set_cons_zero, List.set_cons_succ]
              refine wpAnyH_ready (rs := [21]) (by kernel_rfl) (by simp) ?_
              refine AllReadyH.cons (o := { dst := none, op := Op.store 31 (Operand.tmp 6) (Operand.tmp 36), type := 0, pos := "ref.go:215", after := #[{ on := 20, ground := Ground.data }, { on := 19, ground := Ground.data }, { on := 14, ground := Ground.chain }, { on := 0, ground := Ground.phase }, { on := 1, ground := Ground.phase }, { on := 2, ground := Ground.phase }, { on := 3, ground := Ground.phase }, { on := 4, ground := Ground.phase }, { on := 5, ground := Ground.phase }, { on := 6, ground := Ground.phase }, { on := 7, ground := Ground.phase }, { on := 8, ground := Ground.phase }, { on := 9, ground := Ground.phase }, { on := 10, ground := Ground.phase }, { on := 11, ground := Ground.phase }, { on := 12, ground := Ground.phase }, { on := 13, ground := Ground.phase }, { on := 14, ground := Ground.phase }, { on := 15, ground := Ground.phase }, { on := 16, ground := Ground.phase }, { on := 17, ground := Ground.phase }, { on := 18, ground := Ground.phase }, { on := 19, ground := Ground.phase }, { on := 20, ground := Ground.phase }], guard := none }) rfl (fun K7 hK7 => ?_) ?_
              · refine wp_store_mid 31 _ _ rfl w6.heap.size 0 #[.int .i64 (sm f0.num), .int .i64 (sm f1.num), .int .i64 (sm f2.num), .int .i64 f3.num, .int .i64 0, .int .i64 0, .int .i64 0, .int .i64 0] rfl rfl HXz.out.there sizeInc (by simp [Value.oneCell']) ?_
                refine hK7.out _ _ (⟨(set8_cell S1.1 hbne _), (set8_cell S1.2.1 hbne _), (set8_cell S1.2.2.1 hbne _), (set8_cell S1.2.2.2 hbne _)⟩) (fun hHeld => ?_)
                clear hK7 K7
                try simp only [Act.put, List.setIfInBounds_toArray, List.set_cons_zero, List.set_cons_succ]
                refine wpAnyH_done (by kernel_rfl) ?_ _
                clear hHeld
                have HX7 := Lib.hid (show IBx ((w6.alloc (.cells #[.int .i64 0, .int .i64 0, .int .i64 0, .int .i64 0, .int .i64 0, .int .i64 0, .int .i64 0, .int .i64 0] 31)).drew.setCells w6.heap.size 0 #[.int .i64 (sm f0.num), .int .i64 (sm f1.num), .int .i64 (sm f2.num), .int .i64 f3.num, .int .i64 0, .int .i64 0, .int .i64 0, .int .i64 0].toList) w6.heap.size ⟨sm f0.num, sm f1.num, sm f2.num, f3.num, ⟨0, 0, 0, 0⟩⟩ from HXz.out.put ⟨sm f0.num, sm f1.num, sm f2.num, f3.num, ⟨0, 0, 0, 0⟩⟩)
                have HB7 := Lib.hid (show Below w6.heap.size w6 ((w6.alloc (.cells #[.int .i64 0, .int .i64 0, .int .i64 0, .int .i64 0, .int .i64 0, .int .i64 0, .int .i64 0, .int .i64 0] 31)).drew.setCells w6.heap.size 0 #[.int .i64 (sm f0.num), .int .i64 (sm f1.num), .int .i64 (sm f2.num), .int .i64 f3.num, .int .i64 0, .int .i64 0, .int .i64 0, .int .i64 0].toList) from Below.setCells HBz.out (Nat.le_refl _) 0 _)
                clear S0 S1 HBz HXz
                generalize (w6.alloc (.cells #[.int .i64 0, .int .i64 0, .int .i64 0, .int .i64 0, .int .i64 0, .int .i64 0, .int .i64 0, .int .i64 0] 31)).drew.setCells w6.heap.size 0 #[.int .i64 (sm f0.num), .int .i64 (sm f1.num), .int .i64 (sm f2.num), .int .i64 f3.num, .int .i64 0, .int .i64 0, .int .i64 0, .int .i64 0].toList = W7 at HX7 HB7 ⊢
                go_upto_region 5 with fail
                have S50 : W7.drew.cell? ⟨b, off + 16 + 1, none⟩ = some (.int .i64 f4.num) ∧ W7.drew.cell? ⟨b, off + 20 + 1, none⟩ = some (.int .i64 f5.num) ∧ W7.drew.cell? ⟨b, off + 24 + 1, none⟩ = some (.int .i64 f6.num) ∧ W7.drew.cell? ⟨b, off + 28 + 1, none⟩ = some (.int .i64 f7.num) := ⟨cell_keep d4 (below_drew HB7.out), cell_keep d5 (below_drew HB7.out), cell_keep d6 (below_drew HB7.out), cell_keep d7 (below_drew HB7.out)⟩
                have HX7d := Lib.hid (show IBx W7.drew w6.heap.size _ from HX7.out)
                refine wp_region_held_drew (S := fun u => u.cell? ⟨b, off + 16 + 1, none⟩ = some (.int .i64 f4.num) ∧ u.cell? ⟨b, off + 20 + 1, none⟩ = some (.int .i64 f5.num) ∧ u.cell? ⟨b, off + 24 + 1, none⟩ = some (.int .i64 f6.num) ∧ u.cell? ⟨b, off + 28 + 1, none⟩ = some (.int .i64 f7.num)) (by kernel_rfl) (S50) (fun hHeld => ?_)
                refine wpAnyH_take (i := 0) (oi := { dst := some 37, op := Op.move (Operand.tmp 4), type := 76, pos := "ref.go:216", after := #[], guard := none }) (v := ?_) rfl (by kernel_rfl) (by kernel_rfl) (by kernel_rfl) (fun _ _ _ h => h) (Or.inl ⟨by rfl, ?_⟩) hHeld ?_
                rotate_left 1
                · intro W hSw
                  (try dsimp only at hSw)
                  go_simp
                  try with_reducible rfl
                try simp only [Act.put, List.setIfInBounds_toArray, List.set_cons_zero, List.set_cons_succ]
                refine wpAnyH_take (i := 1) (oi := { dst := some 38, op := Op.indexAddr 76 (Operand.tmp 37) (Operand.const (Value.int IntKind.i64 4)), type := 0, pos := "ref.go:216", after := #[{ on := 0, ground := Ground.data }], guard := none }) (v := ?_) rfl (by kernel_rfl) (by kernel_rfl) (by kernel_rfl) (fun _ _ _ h => h) (Or.inl ⟨by rfl, ?_⟩) hHeld ?_
                rotate_left 1
                · intro W hSw
                  (try dsimp only at hSw)
                  go_simp
                  try with_reducible rfl
                try simp only [Act.put, List.setIfInBounds_toArray, List.set_cons_zero, List.set_cons_succ]
                refine wpAnyH_take (i := 2) (oi := { dst := some 39, op := Op.fieldAddr 86 (Operand.tmp 38) 1, type := 0, pos := "ref.go:216", after := #[{ on := 1, ground := Ground.data }], guard := none }) (v := ?_) rfl (by kernel_rfl) (by kernel_rfl) (by kernel_rfl) (fun _ _ _ h => h) (Or.inl ⟨by rfl, ?_⟩) hHeld ?_
                rotate_left 1
                · intro W hSw
                  (try dsimp only at hSw)
                  go_simp
                  try with_reducible rfl
                try simp only [Act.put, List.setIfInBounds_toArray, List.set_cons_zero, List.set_cons_succ]
                refine wpAnyH_take (i := 3) (oi := { dst := some 40, op := Op.load 2 (Operand.tmp 39), type := 2, pos := "ref.go:216", after := #[{ on := 2, ground := Ground.data }], guard := none }) (v := ?_) rfl (by kernel_rfl) (by kernel_rfl) (by kernel_rfl) (fun _ _ _ h => h) (Or.inl ⟨by rfl, ?_⟩) hHeld ?_
                rotate_left 1
                · intro W hSw
                  (try dsimp only at hSw)
                  go_simp
                  try with_reducible rfl
                try simp only [Act.put, List.setIfInBounds_toArray, List.set_cons_zero, List.set_cons_succ]
                refine wpAnyH_take (i := 5) (oi := { dst := some 42, op := Op.move (Operand.tmp 4), type := 76, pos := "ref.go:216", after := #[], guard := none }) (v := ?_) rfl (by kernel_rfl) (by kernel_rfl) (by kernel_rfl) (fun _ _ _ h => h) (Or.inl ⟨by rfl, ?_⟩) hHeld ?_
                rotate_left 1
                · intro W hSw
                  (try dsimp only at hSw)
                  go_simp
                  try with_reducible rfl
                try simp only [Act.put, List.setIfInBounds_toArray, List.set_cons_zero, List.set_cons_succ]
                refine wpAnyH_take (i := 6) (oi := { dst := some 43, op := Op.indexAddr 76 (Operand.tmp 42) (Operand.const (Value.int IntKind.i64 5)), type := 0, pos := "ref.go:216", after := #[{ on := 5, ground := Ground.data }], guard := none }) (v := ?_) rfl (by kernel_rfl) (by kernel_rfl) (by kernel_rfl) (fun _ _ _ h => h) (Or.inl ⟨by rfl, ?_⟩) hHeld ?_
                rotate_left 1
                · intro W hSw
                  (try dsimp only at hSw)
                  go_simp
                  try with_reducible rfl
                try simp only [Act.put, List.setIfInBounds_toArray, List.set_cons_zero, List.set_cons_succ]
                refine wpAnyH_take (i := 7) (oi := { dst := some 44, op := Op.fieldAddr 86 (Operand.tmp 43) 1, type := 0, pos := "ref.go:216", after := #[{ on := 6, ground := Ground.data }], guard := none }) (v := ?_) rfl (by kernel_rfl) (by kernel_rfl) (by kernel_rfl) (fun _ _ _ h => h) (Or.inl ⟨by rfl, ?_⟩) hHeld ?_
                rotate_left 1
                · intro W hSw
                  (try dsimp only at hSw)
                  go_simp
                  try with_reducible rfl
                try simp only [Act.put, List.setIfInBounds_toArray, List.set_cons_zero, List.set_cons_succ]
                refine wpAnyH_take (i := 8) (oi := { dst := some 45, op := Op.load 2 (Operand.tmp 44), type := 2, pos := "ref.go:216", after := #[{ on := 7, ground := Ground.data }], guard := none }) (v := ?_) rfl (by kernel_rfl) (by kernel_rfl) (by kernel_rfl) (fun _ _ _ h => h) (Or.inl ⟨by rfl, ?_⟩) hHeld ?_
                rotate_left 1
                · intro W hSw
                  (try dsimp only at hSw)
                  go_simp
                  try with_reducible rfl
                try simp only [Act.put, List.setIfInBounds_toArray, List.set_cons_zero, List.set_cons_succ]
                refine wpAnyH_take (i := 10) (oi := { dst := some 47, op := Op.move (Operand.tmp 4), type := 76, pos := "ref.go:216", after := #[], guard := none }) (v := ?_) rfl (by kernel_rfl) (by kernel_rfl) (by kernel_rfl) (fun _ _ _ h => h) (Or.inl ⟨by rfl, ?_⟩) hHeld ?_
                rotate_left 1
                · intro W hSw
                  (try dsimp only at hSw)
                  go_simp
                  try with_reducible rfl
                try simp only [Act.put, List.setIfInBounds_toArray, List.set_cons_zero, List.set_cons_succ]
                refine wpAnyH_take (i := 11) (oi := { dst := some 48, op := Op.indexAddr 76 (Operand.tmp 47) (Operand.const (Value.int IntKind.i64 6)), type := 0, pos := "ref.go:216", after := #[{ on := 10, ground := Ground.data }], guard := none }) (v := ?_) rfl (by kernel_rfl) (by kernel_rfl) (by kernel_rfl) (fun _ _ _ h => h) (Or.inl ⟨by rfl, ?_⟩) hHeld ?_
                rotate_left 1
                · intro W hSw
                  (try dsimp only at hSw)
                  go_simp
                  try with_reducible rfl
                try simp only [Act.put, List.setIfInBounds_toArray, List.set_cons_zero, List.set_cons_succ]
                refine wpAnyH_take (i := 12) (oi := { dst := some 49, op := Op.fieldAddr 86 (Operand.tmp 48) 1, type := 0, pos := "ref.go:216", after := #[{ on := 11, ground := Ground.data }], guard := none }) (v := ?_) rfl (by kernel_rfl) (by kernel_rfl) (by kernel_rfl) (fun _ _ _ h => h) (Or.inl ⟨by rfl, ?_⟩) hHeld ?_
                rotate_left 1
                · intro W hSw
                  (try dsimp only at hSw)
                  go_simp
                  try with_reducible rfl
                try simp only [Act.put, List.setIfInBounds_toArray, List.set_cons_zero, List.set_cons_succ]
                refine wpAnyH_take (i := 13) (oi := { dst := some 50, op := Op.load 2 (Operand.tmp 49), type := 2, pos := "ref.go:216", after := #[{ on := 12, ground := Ground.data }], guard := none }) (v := ?_) rfl (by kernel_rfl) (by kernel_rfl) (by kernel_rfl) (fun _ _ _ h => h) (Or.inl ⟨by rfl, ?_⟩) hHeld ?_
                rotate_left 1
                · intro W hSw
                  (try dsimp only at hSw)
                  go_simp
                  try with_reducible rfl
                try simp only [Act.put, List.setIfInBounds_toArray, List.set_cons_zero, List.set_cons_succ]
                refine wpAnyH_take (i := 15) (oi := { dst := some 52, op := Op.move (Operand.tmp 4), type := 76, pos := "ref.go:216", after := #[], guard := none }) (v := ?_) rfl (by kernel_rfl) (by kernel_rfl) (by kernel_rfl) (fun _ _ _ h => h) (Or.inl ⟨by rfl, ?_⟩) hHeld ?_
                rotate_left 1
                · intro W hSw
                  (try dsimp only at hSw)
                  go_simp
                  try with_reducible rfl
                try simp only [Act.put, List.setIfInBounds_toArray, List.set_cons_zero, List.set_cons_succ]
                refine wpAnyH_take (i := 16) (oi := { dst := some 53, op := Op.indexAddr 76 (Operand.tmp 52) (Operand.const (Value.int IntKind.i64 7)), type := 0, pos := "ref.go:216", after := #[{ on := 15, ground := Ground.data }], guard := none }) (v := ?_) rfl (by kernel_rfl) (by kernel_rfl) (by kernel_rfl) (fun _ _ _ h => h) (Or.inl ⟨by rfl, ?_⟩) hHeld ?_
                rotate_left 1
                · intro W hSw
                  (try dsimp only at hSw)
                  go_simp
                  try with_reducible rfl
                try simp only [Act.put, List.setIfInBounds_toArray, List.set_cons_zero, List.set_cons_succ]
                refine wpAnyH_take (i := 17) (oi := { dst := some 54, op := Op.fieldAddr 86 (Operand.tmp 53) 1, type := 0, pos := "ref.go:216", after := #[{ on := 16, ground := Ground.data }], guard := none }) (v := ?_) rfl (by kernel_rfl) (by kernel_rfl) (by kernel_rfl) (fun _ _ _ h => h) (Or.inl ⟨by rfl, ?_⟩) hHeld ?_
                rotate_left 1
                · intro W hSw
                  (try dsimp only at hSw)
                  go_simp
                  try with_reducible rfl
                try simp only [Act.put, List.setIfInBounds_toArray, List.set_cons_zero, List.set_cons_succ]
                refine wpAnyH_take (i := 18) (oi := { dst := some 55, op := Op.load 2 (Operand.tmp 54), type := 2, pos := "ref.go:216", after := #[{ on := 17, ground := Ground.data }], guard := none }) (v := ?_) rfl (by kernel_rfl) (by kernel_rfl) (by kernel_rfl) (fun _ _ _ h => h) (Or.inl ⟨by rfl, ?_⟩) hHeld ?_
                rotate_left 1
                · intro W hSw
                  (try dsimp only at hSw)
                  go_simp
                  try with_reducible rfl
                try simp only [Act.put, List.setIfInBounds_toArray, List.set_cons_zero, List.set_cons_succ]
                refine wpAnyH_ready (rs := [4]) (by kernel_rfl) (by simp) ?_
                refine AllReadyH.cons (o := { dst := some 41, op := Op.call { callee := Callee.value (Operand.func 57), args := #[Operand.tmp 40], argTypes := #[2] }, type := 3, pos := "ref.go:216", after := #[{ on := 3, ground := Ground.data }], guard := none }) rfl (fun K7 hK7 => ?_) ?_
                · go_simp
                  refine (rsmall_any _ _).mono ?_
                  rintro e w7 ⟨rfl, rfl⟩
                  try dsimp only
                  refine hK7.out _ _ (S50) (fun hHeld => ?_)
                  clear hK7 K7
                  try simp only [Act.put, List.setIfInBounds_toArray, List.set_cons_zero, List.set_cons_succ]
                  refine wpAnyH_ready (rs := [9]) (by kernel_rfl) (by simp) ?_
                  refine AllReadyH.cons (o := { dst := some 46, op := Op.call { callee := Callee.value (Operand.func 57), args := #[Operand.tmp 45], argTypes := #[2] }, type := 3, pos := "ref.go:216", after := #[{ on := 8, ground := Ground.data }, { on := 4, ground := Ground.chain }], guard := none }) rfl (fun K7 hK7 => ?_) ?_
                  · go_simp
                    refine (rsmall_any _ _).mono ?_
                    rintro e w7 ⟨rfl, rfl⟩
                    try dsimp only
                    refine hK7.out _ _ (S50) (fun hHeld => ?_)
                    clear hK7 K7
                    try simp only [Act.put, List.setIfInBounds_toArray, List.set_cons_zero, List.set_cons_succ]
                    refine wpAnyH_ready (rs := [14]) (by kernel_rfl) (by simp) ?_
                    refine AllReadyH.cons (o := { dst := some 51, op := Op.call { callee := Callee.value (Operand.func 57), args := #[Operand.tmp 50], argTypes := #[2] }, type := 3, pos := "ref.go:216", after := #[{ on := 13, ground := Ground.data }, { on := 9, ground := Ground.chain }], guard := none }) rfl (fun K7 hK7 => ?_) ?_
                    · go_simp
                      refine (rsmall_any _ _).mono ?_
                      rintro e w7 ⟨rfl, rfl⟩
                      try dsimp only
                      refine hK7.out _ _ (S50) (fun hHeld => ?_)
                      clear hK7 K7
                      try simp only [Act.put, List.setIfInBounds_toArray, List.set_cons_zero, List.set_cons_succ]
                      refine wpAnyH_ready (rs := [19]) (by kernel_rfl) (by simp) ?_
                      refine AllReadyH.cons (o := { dst := some 56, op := Op.call { callee := Callee.value (Operand.func 57), args := #[Operand.tmp 55], argTypes := #[2] }, type := 3, pos := "ref.go:216", after := #[{ on := 18, ground := Ground.data }, { on := 14, ground := Ground.chain }], guard := none }) rfl (fun K7 hK7 => ?_) ?_
                      · go_simp
                        refine (rsmall_any _ _).mono ?_
                        rintro e w7 ⟨rfl, rfl⟩
                        try dsimp only
                        refine hK7.out _ _ (S50) (fun hHeld => ?_)
                        clear hK7 K7
                        try simp only [Act.put, List.setIfInBounds_toArray, List.set_cons_zero, List.set_cons_succ]
                        refine wpAnyH_take (i := 20) (oi := { dst := some 57, op := Op.build 29 #[(0, Operand.tmp 41), (1, Operand.tmp 46), (2, Operand.tmp 51), (3, Operand.tmp 56)], type := 29, pos := "ref.go:216", after := #[{ on := 4, ground := Ground.data }, { on := 9, ground := Ground.data }, { on := 14, ground := Ground.data }, { on := 19, ground := Ground.data }], guard := none }) (v := ?_) rfl (by kernel_rfl) (by kernel_rfl) (by kernel_rfl) (fun _ _ _ h => h) (Or.inl ⟨by rfl, ?_⟩) hHeld ?_
                        rotate_left 1
                        · intro W hSw
                          (try dsimp only at hSw)
                          go_simp
                          try with_reducible rfl
                        try simp only [Act.put, List.setIfInBounds_toArray, List.set_cons_zero, List.set_cons_succ]
                        refine wpAnyH_take (i := 21) (oi := { dst := some 58, op := Op.fieldAddr 31 (Operand.tmp 6) 4, type := 0, pos := "ref.go:216", after := #[{ on := 0, ground := Ground.phase }, { on := 1, ground := Ground.phase }, { on := 2, ground := Ground.phase }, { on := 3, ground := Ground.phase }, { on := 4, ground := Ground.phase }, { on := 5, ground := Ground.phase }, { on := 6, ground := Ground.phase }, { on := 7, ground := Ground.phase }, { on := 8, ground := Ground.phase }, { on := 9, ground := Ground.phase }, { on := 10, ground := Ground.phase }, { on := 11, ground := Ground.phase }, { on := 12, ground := Ground.phase }, { on := 13, ground := Ground.phase }, { on := 14, ground := Ground.phase }, { on := 15, ground := Ground.phase }, { on := 16, ground := Ground.phase }, { on := 17, ground := Ground.phase }, { on := 18, ground := Ground.phase }, { on := 19, ground := Ground.phase }, { on := 20, ground := Ground.phase }], guard := none }) (v := ?_) rfl (by kernel_rfl) (by kernel_rfl) (by kernel_rfl) (fun _ _ _ h => h) (Or.inl ⟨by rfl, ?_⟩) hHeld ?_
                        rotate_left 1
                        · intro W hSw
                          (try dsimp only at hSw)
                          go_simp
                          try with_reducible rfl
                        try simp only [Act.put, List.setIfInBounds_toArray, List.set_cons_zero, List.set_cons_succ]
                        refine wpAnyH_ready (rs := [22]) (by kernel_rfl) (by simp) ?_
                        refine AllReadyH.cons (o := { dst := none, op := Op.store 29 (Operand.tmp 58) (Operand.tmp 57), type := 0, pos := "ref.go:216", after := #[{ on := 21, ground := Ground.data }, { on := 20, ground := Ground.data }, { on := 19, ground := Ground.chain }, { on := 0, ground := Ground.phase }, { on := 1, ground := Ground.phase }, { on := 2, ground := Ground.phase }, { on := 3, ground := Ground.phase }, { on := 4, ground := Ground.phase }, { on := 5, ground := Ground.phase }, { on := 6, ground := Ground.phase }, { on := 7, ground := Ground.phase }, { on := 8, ground := Ground.phase }, { on := 9, ground := Ground.phase }, { on := 10, ground := Ground.phase }, { on := 11, ground := Ground.phase }, { on := 12, ground := Ground.phase }, { on := 13, ground := Ground.phase }, { on := 14, ground := Ground.phase }, { on := 15, ground := Ground.phase }, { on := 16, ground := Ground.phase }, { on := 17, ground := Ground.phase }, { on := 18, ground := Ground.phase }, { on := 19, ground := Ground.phase }, { on := 20, ground := Ground.phase }], guard := none }) rfl (fun K7 hK7 => ?_) ?_
                        · refine wp_store_mid 29 _ _ rfl w6.heap.size 4 #[.int .i64 (sm f4.num), .int .i64 (sm f5.num), .int .i64 (sm f6.num), .int .i64 (sm f7.num)] rfl rfl (there4 HX7d.out) sizePool (by simp [Value.oneCell']) ?_
                          refine hK7.out _ _ (⟨(set8o_cell S50.1 hbne 4 _), (set8o_cell S50.2.1 hbne 4 _), (set8o_cell S50.2.2.1 hbne 4 _), (set8o_cell S50.2.2.2 hbne 4 _)⟩) (fun hHeld => ?_)
                          clear hK7 K7
                          try simp only [Act.put, List.setIfInBounds_toArray, List.set_cons_zero, List.set_cons_succ]
                          refine wpAnyH_done (by kernel_rfl) ?_ _
                          clear hHeld
                          have HX8 := Lib.hid (show IBx (W7.drew.setCells w6.heap.size 4 #[.int .i64 (sm f4.num), .int .i64 (sm f5.num), .int .i64 (sm f6.num), .int .i64 (sm f7.num)].toList) w6.heap.size ⟨sm f0.num, sm f1.num, sm f2.num, f3.num, ⟨sm f4.num, sm f5.num, sm f6.num, sm f7.num⟩⟩ from putPool HX7d.out _ _ _ _)
                          have HB8 := Lib.hid (show Below w.heap.size w (W7.drew.setCells w6.heap.size 4 #[.int .i64 (sm f4.num), .int .i64 (sm f5.num), .int .i64 (sm f6.num), .int .i64 (sm f7.num)].toList) from HBw6.out.trans ((show Below w6.heap.size w6 _ from Below.setCells (show Below w6.heap.size w6 W7.drew from below_drew HB7.out) (Nat.le_refl _) 4 _).mono HBw6.out.size))
                          have HI8 := Lib.hid (show IBx (W7.drew.setCells w6.heap.size 4 #[.int .i64 (sm f4.num), .int .i64 (sm f5.num), .int .i64 (sm f6.num), .int .i64 (sm f7.num)].toList) w.heap.size incZ from HI6.out.keep (show Below w6.heap.size w6 _ from Below.setCells (show Below w6.heap.size w6 W7.drew from below_drew HB7.out) (Nat.le_refl _) 4 _))
                          clear S50 HX7d HX7 HB7
                          generalize W7.drew.setCells w6.heap.size 4 #[.int .i64 (sm f4.num), .int .i64 (sm f5.num), .int .i64 (sm f6.num), .int .i64 (sm f7.num)].toList = W8 at HX8 HB8 HI8 ⊢
                          obtain ⟨M, hM⟩ : ∃ M, w6.heap.size = M := ⟨_, rfl⟩
                          rw [hM] at HX8 ⊢
                          clear hM
                          obtain ⟨c0, c1, c2, c3, c4, c5, c6, c7⟩ := HX8.out.cells
                          simp only at c0 c1 c2 c3 c4 c5 c6 c7
                          cases q with
                          | false =>
                            go_wp2_with (first
                              | (go_at_call 21; refine (HIn.out _).mono ?_; rintro e w9 ⟨rfl, hb⟩; have HB9 := Lib.hid (HB8.out.trans (hb.mono HB8.out.size)); have HI9 := Lib.hid (HI8.out.keep hb); clear hb c0 c1 c2 c3 c4 c5 c6 c7)
                              | (refine wpList_store_mid rfl 31 _ _ rfl w.heap.size 0 (IncV.cells incZ).toArray rfl rfl HI9.out.there sizeInc (all_oneCell_toArray (IncV.one _)) ?_))
                            refine bodyPost_ret (ret_cell_tmp rfl rfl (HI9.out.put incZ).range Tryz.underlying31 rfl sizeInc) rfl ?_
                            rw [HDr.out]
                            exact ⟨rfl, Below.setCells HB9.out (b := w.heap.size) (Nat.le_refl _) 0 (IncV.cells incZ)⟩
                          | true =>
                            go_wp2_with (first
                              | (go_at_call 21; refine (HIn.out _).mono ?_; rintro e w9 ⟨rfl, hb⟩; have HB9 := Lib.hid (HB8.out.trans (hb.mono HB8.out.size)); have HI9 := Lib.hid (HI8.out.keep hb); clear c0 c1 c2 c3 c4 c5 c6 c7; obtain ⟨c0, c1, c2, c3, c4, c5, c6, c7⟩ := (HX8.out.keep hb).cells; simp only at c0 c1 c2 c3 c4 c5 c6 c7; clear hb)
                              | (refine wpList_store_mid rfl 31 _ _ rfl w.heap.size 0 (IncV.cells ⟨sm f0.num, sm f1.num, sm f2.num, f3.num, ⟨sm f4.num, sm f5.num, sm f6.num, sm f7.num⟩⟩).toArray rfl rfl HI9.out.there sizeInc (all_oneCell_toArray (IncV.one _)) ?_; clear c0 c1 c2 c3 c4 c5 c6 c7))
                            refine bodyPost_ret (ret_cell_tmp rfl rfl (HI9.out.put ⟨sm f0.num, sm f1.num, sm f2.num, f3.num, ⟨sm f4.num, sm f5.num, sm f6.num, sm f7.num⟩⟩).range Tryz.underlying31 rfl sizeInc) rfl ?_
                            rw [HDr.out, if_pos trivial, ← HEq.out (by first | rfl | trivial)]
                            exact ⟨rfl, Below.setCells HB9.out (b := w.heap.size) (Nat.le_refl _) 0 (IncV.cells ⟨sm f0.num, sm f1.num, sm f2.num, f3.num, ⟨sm f4.num, sm f5.num, sm f6.num, sm f7.num⟩⟩)⟩
                        exact AllReadyH.nil
                      exact AllReadyH.nil
                    exact AllReadyH.nil
                  exact AllReadyH.nil
                exact AllReadyH.nil
              exact AllReadyH.nil
            exact AllReadyH.nil
          exact AllReadyH.nil
        refine AllReadyH.cons (o := { dst := some 6, op := Op.alloc 31, type := 0, pos := "ref.go:215", after := #[], guard := none }) rfl (fun K7 hK7 => ?_) ?_
        · go_simp
          refine hK7.out _ _ (S1) (fun hHeld => ?_)
          clear hK7 K7
          try simp only [Act.put, List.setIfInBounds_toArray, List.set_cons_zero, List.set_cons_succ]
          refine wpAnyH_ready (rs := [9]) (by kernel_rfl) (by simp) ?_
          refine AllReadyH.cons (o := { dst := some 26, op := Op.call { callee := Callee.value (Operand.func 57), args := #[Operand.tmp 25], argTypes := #[2] }, type := 3, pos := "ref.go:215", after := #[{ on := 8, ground := Ground.data }, { on := 4, ground := Ground.chain }], guard := none }) rfl (fun K7 hK7 => ?_) ?_
          · go_simp
            refine (rsmall_any _ _).mono ?_
            rintro e w7 ⟨rfl, rfl⟩
            try dsimp only
            refine hK7.out _ _ (by first | exact S0 | exact S1) (fun hHeld => ?_)
            clear hK7 K7
            try simp only [Act.put, List.setIfInBounds_toArray, List.set_cons_zero, List.set_cons_succ]
            refine wpAnyH_ready (rs := [14]) (by kernel_rfl) (by simp) ?_
            refine AllReadyH.cons (o := { dst := some 31, op := Op.call { callee := Callee.value (Operand.func 57), args := #[Operand.tmp 30], argTypes := #[2] }, type := 3, pos := "ref.go:215", after := #[{ on := 13, ground := Ground.data }, { on := 9, ground := Ground.chain }], guard := none }) rfl (fun K7 hK7 => ?_) ?_
            · go_simp
              refine (rsmall_any _ _).mono ?_
              rintro e w7 ⟨rfl, rfl⟩
              try dsimp only
              refine hK7.out _ _ (by first | exact S0 | exact S1) (fun hHeld => ?_)
              clear hK7 K7
              try simp only [Act.put, List.setIfInBounds_toArray, List.set_cons_zero, List.set_cons_succ]
              refine wpAnyH_take (i := 19) (oi := { dst := some 36, op := Op.build 31 #[(0, Operand.tmp 21), (1, Operand.tmp 26), (2, Operand.tmp 31), (3, Operand.tmp 35)], type := 31, pos := "ref.go:215", after := #[{ on := 4, ground := Ground.data }, { on := 9, ground := Ground.data }, { on := 14, ground := Ground.data }, { on := 18, ground := Ground.data }], guard := none }) (v := ?_) rfl (by kernel_rfl) (by kernel_rfl) (by kernel_rfl) (fun _ _ _ h => h) (Or.inl ⟨by rfl, ?_⟩) hHeld ?_
              rotate_left 1
              · intro W hSw
                (try dsimp only at hSw)
                go_simp
                try with_reducible rfl
              try simp only [Act.put, List.setIfInBounds_toArray, List.set_cons_zero, List.set_cons_succ]
              refine wpAnyH_ready (rs := [21]) (by kernel_rfl) (by simp) ?_
              refine AllReadyH.cons (o := { dst := none, op := Op.store 31 (Operand.tmp 6) (Operand.tmp 36), type := 0, pos := "ref.go:215", after := #[{ on := 20, ground := Ground.data }, { on := 19, ground := Ground.data }, { on := 14, ground := Ground.chain }, { on := 0, ground := Ground.phase }, { on := 1, ground := Ground.phase }, { on := 2, ground := Ground.phase }, { on := 3, ground := Ground.phase }, { on := 4, ground := Ground.phase }, { on := 5, ground := Ground.phase }, { on := 6, ground := Ground.phase }, { on := 7, ground := Ground.phase }, { on := 8, ground := Ground.phase }, { on := 9, ground := Ground.phase }, { on := 10, ground := Ground.phase }, { on := 11, ground := Ground.phase }, { on := 12, ground := Ground.phase }, { on := 13, ground := Ground.phase }, { on := 14, ground := Ground.phase }, { on := 15, ground := Ground.phase }, { on := 16, ground := Ground.phase }, { on := 17, ground := Ground.phase }, { on := 18, ground := Ground.phase }, { on := 19, ground := Ground.phase }, { on := 20, ground := Ground.phase }], guard := none }) rfl (fun K7 hK7 => ?_) ?_
              · refine wp_store_mid 31 _ _ rfl w6.heap.size 0 #[.int .i64 (sm f0.num), .int .i64 (sm f1.num), .int .i64 (sm f2.num), .int .i64 f3.num, .int .i64 0, .int .i64 0, .int .i64 0, .int .i64 0] rfl rfl HXz.out.there sizeInc (by simp [Value.oneCell']) ?_
                refine hK7.out _ _ (⟨(set8_cell S1.1 hbne _), (set8_cell S1.2.1 hbne _), (set8_cell S1.2.2.1 hbne _), (set8_cell S1.2.2.2 hbne _)⟩) (fun hHeld => ?_)
                clear hK7 K7
                try simp only [Act.put, List.setIfInBounds_toArray, List.set_cons_zero, List.set_cons_succ]
                refine wpAnyH_done (by kernel_rfl) ?_ _
                clear hHeld
                have HX7 := Lib.hid (show IBx ((w6.alloc (.cells #[.int .i64 0, .int .i64 0, .int .i64 0, .int .i64 0, .int .i64 0, .int .i64 0, .int .i64 0, .int .i64 0] 31)).drew.setCells w6.heap.size 0 #[.int .i64 (sm f0.num), .int .i64 (sm f1.num), .int .i64 (sm f2.num), .int .i64 f3.num, .int .i64 0, .int .i64 0, .int .i64 0, .int .i64 0].toList) w6.heap.size ⟨sm f0.num, sm f1.num, sm f2.num, f3.num, ⟨0, 0, 0, 0⟩⟩ from HXz.out.put ⟨sm f0.num, sm f1.num, sm f2.num, f3.num, ⟨0, 0, 0, 0⟩⟩)
                have HB7 := Lib.hid (show Below w6.heap.size w6 ((w6.alloc (.cells #[.int .i64 0, .int .i64 0, .int .i64 0, .int .i64 0, .int .i64 0, .int .i64 0, .int .i64 0, .int .i64 0] 31)).drew.setCells w6.heap.size 0 #[.int .i64 (sm f0.num), .int .i64 (sm f1.num), .int .i64 (sm f2.num), .int .i64 f3.num, .int .i64 0, .int .i64 0, .int .i64 0, .int .i64 0].toList) from Below.setCells HBz.out (Nat.le_refl _) 0 _)
                clear S0 S1 HBz HXz
                generalize (w6.alloc (.cells #[.int .i64 0, .int .i64 0, .int .i64 0, .int .i64 0, .int .i64 0, .int .i64 0, .int .i64 0, .int .i64 0] 31)).drew.setCells w6.heap.size 0 #[.int .i64 (sm f0.num), .int .i64 (sm f1.num), .int .i64 (sm f2.num), .int .i64 f3.num, .int .i64 0, .int .i64 0, .int .i64 0, .int .i64 0].toList = W7 at HX7 HB7 ⊢
                go_upto_region 5 with fail
                have S50 : W7.drew.cell? ⟨b, off + 16 + 1, none⟩ = some (.int .i64 f4.num) ∧ W7.drew.cell? ⟨b, off + 20 + 1, none⟩ = some (.int .i64 f5.num) ∧ W7.drew.cell? ⟨b, off + 24 + 1, none⟩ = some (.int .i64 f6.num) ∧ W7.drew.cell? ⟨b, off + 28 + 1, none⟩ = some (.int .i64 f7.num) := ⟨cell_keep d4 (below_drew HB7.out), cell_keep d5 (below_drew HB7.out), cell_keep d6 (below_drew HB7.out), cell_keep d7 (below_drew HB7.out)⟩
                have HX7d := Lib.hid (show IBx W7.drew w6.heap.size _ from HX7.out)
                refine wp_region_held_drew (S := fun u => u.cell? ⟨b, off + 16 + 1, none⟩ = some (.int .i64 f4.num) ∧ u.cell? ⟨b, off + 20 + 1, none⟩ = some (.int .i64 f5.num) ∧ u.cell? ⟨b, off + 24 + 1, none⟩ = some (.int .i64 f6.num) ∧ u.cell? ⟨b, off + 28 + 1, none⟩ = some (.int .i64 f7.num)) (by kernel_rfl) (S50) (fun hHeld => ?_)
                refine wpAnyH_take (i := 0) (oi := { dst := some 37, op := Op.move (Operand.tmp 4), type := 76, pos := "ref.go:216", after := #[], guard := none }) (v := ?_) rfl (by kernel_rfl) (by kernel_rfl) (by kernel_rfl) (fun _ _ _ h => h) (Or.inl ⟨by rfl, ?_⟩) hHeld ?_
                rotate_left 1
                · intro W hSw
                  (try dsimp only at hSw)
                  go_simp
                  try with_reducible rfl
                try simp only [Act.put, List.setIfInBounds_toArray, List.set_cons_zero, List.set_cons_succ]
                refine wpAnyH_take (i := 1) (oi := { dst := some 38, op := Op.indexAddr 76 (Operand.tmp 37) (Operand.const (Value.int IntKind.i64 4)), type := 0, pos := "ref.go:216", after := #[{ on := 0, ground := Ground.data }], guard := none }) (v := ?_) rfl (by kernel_rfl) (by kernel_rfl) (by kernel_rfl) (fun _ _ _ h => h) (Or.inl ⟨by rfl, ?_⟩) hHeld ?_
                rotate_left 1
                · intro W hSw
                  (try dsimp only at hSw)
                  go_simp
                  try with_reducible rfl
                try simp only [Act.put, List.setIfInBounds_toArray, List.set_cons_zero, List.set_cons_succ]
                refine wpAnyH_take (i := 2) (oi := { dst := some 39, op := Op.fieldAddr 86 (Operand.tmp 38) 1, type := 0, pos := "ref.go:216", after := #[{ on := 1, ground := Ground.data }], guard := none }) (v := ?_) rfl (by kernel_rfl) (by kernel_rfl) (by kernel_rfl) (fun _ _ _ h => h) (Or.inl ⟨by rfl, ?_⟩) hHeld ?_
                rotate_left 1
                · intro W hSw
                  (try dsimp only at hSw)
                  go_simp
                  try with_reducible rfl
                try simp only [Act.put, List.setIfInBounds_toArray, List.set_cons_zero, List.set_cons_succ]
                refine wpAnyH_take (i := 3) (oi := { dst := some 40, op := Op.load 2 (Operand.tmp 39), type := 2, pos := "ref.go:216", after := #[{ on := 2, ground := Ground.data }], guard := none }) (v := ?_) rfl (by kernel_rfl) (by kernel_rfl) (by kernel_rfl) (fun _ _ _ h => h) (Or.inl ⟨by rfl, ?_⟩) hHeld ?_
                rotate_left 1
                · intro W hSw
                  (try dsimp only at hSw)
                  go_simp
                  try with_reducible rfl
                try simp only [Act.put, List.setIfInBounds_toArray, List.set_cons_zero, List.set_cons_succ]
                refine wpAnyH_take (i := 5) (oi := { dst := some 42, op := Op.move (Operand.tmp 4), type := 76, pos := "ref.go:216", after := #[], guard := none }) (v := ?_) rfl (by kernel_rfl) (by kernel_rfl) (by kernel_rfl) (fun _ _ _ h => h) (Or.inl ⟨by rfl, ?_⟩) hHeld ?_
                rotate_left 1
                · intro W hSw
                  (try dsimp only at hSw)
                  go_simp
                  try with_reducible rfl
                try simp only [Act.put, List.setIfInBounds_toArray, List.set_cons_zero, List.set_cons_succ]
                refine wpAnyH_take (i := 6) (oi := { dst := some 43, op := Op.indexAddr 76 (Operand.tmp 42) (Operand.const (Value.int IntKind.i64 5)), type := 0, pos := "ref.go:216", after := #[{ on := 5, ground := Ground.data }], guard := none }) (v := ?_) rfl (by kernel_rfl) (by kernel_rfl) (by kernel_rfl) (fun _ _ _ h => h) (Or.inl ⟨by rfl, ?_⟩) hHeld ?_
                rotate_left 1
                · intro W hSw
                  (try dsimp only at hSw)
                  go_simp
                  try with_reducible rfl
                try simp only [Act.put, List.setIfInBounds_toArray, List.set_cons_zero, List.set_cons_succ]
                refine wpAnyH_take (i := 7) (oi := { dst := some 44, op := Op.fieldAddr 86 (Operand.tmp 43) 1, type := 0, pos := "ref.go:216", after := #[{ on := 6, ground := Ground.data }], guard := none }) (v := ?_) rfl (by kernel_rfl) (by kernel_rfl) (by kernel_rfl) (fun _ _ _ h => h) (Or.inl ⟨by rfl, ?_⟩) hHeld ?_
                rotate_left 1
                · intro W hSw
                  (try dsimp only at hSw)
                  go_simp
                  try with_reducible rfl
                try simp only [Act.put, List.setIfInBounds_toArray, List.set_cons_zero, List.set_cons_succ]
                refine wpAnyH_take (i := 8) (oi := { dst := some 45, op := Op.load 2 (Operand.tmp 44), type := 2, pos := "ref.go:216", after := #[{ on := 7, ground := Ground.data }], guard := none }) (v := ?_) rfl (by kernel_rfl) (by kernel_rfl) (by kernel_rfl) (fun _ _ _ h => h) (Or.inl ⟨by rfl, ?_⟩) hHeld ?_
                rotate_left 1
                · intro W hSw
                  (try dsimp only at hSw)
                  go_simp
                  try with_reducible rfl
                try simp only [Act.put, List.setIfInBounds_toArray, List.set_cons_zero, List.set_cons_succ]
                refine wpAnyH_take (i := 10) (oi := { dst := some 47, op := Op.move (Operand.tmp 4), type := 76, pos := "ref.go:216", after := #[], guard := none }) (v := ?_) rfl (by kernel_rfl) (by kernel_rfl) (by kernel_rfl) (fun _ _ _ h => h) (Or.inl ⟨by rfl, ?_⟩) hHeld ?_
                rotate_left 1
                · intro W hSw
                  (try dsimp only at hSw)
                  go_simp
                  try with_reducible rfl
                try simp only [Act.put, List.setIfInBounds_toArray, List.set_cons_zero, List.set_cons_succ]
                refine wpAnyH_take (i := 11) (oi := { dst := some 48, op := Op.indexAddr 76 (Operand.tmp 47) (Operand.const (Value.int IntKind.i64 6)), type := 0, pos := "ref.go:216", after := #[{ on := 10, ground := Ground.data }], guard := none }) (v := ?_) rfl (by kernel_rfl) (by kernel_rfl) (by kernel_rfl) (fun _ _ _ h => h) (Or.inl ⟨by rfl, ?_⟩) hHeld ?_
                rotate_left 1
                · intro W hSw
                  (try dsimp only at hSw)
                  go_simp
                  try with_reducible rfl
                try simp only [Act.put, List.setIfInBounds_toArray, List.set_cons_zero, List.set_cons_succ]
                refine wpAnyH_take (i := 12) (oi := { dst := some 49, op := Op.fieldAddr 86 (Operand.tmp 48) 1, type := 0, pos := "ref.go:216", after := #[{ on := 11, ground := Ground.data }], guard := none }) (v := ?_) rfl (by kernel_rfl) (by kernel_rfl) (by kernel_rfl) (fun _ _ _ h => h) (Or.inl ⟨by rfl, ?_⟩) hHeld ?_
                rotate_left 1
                · intro W hSw
                  (try dsimp only at hSw)
                  go_simp
                  try with_reducible rfl
                try simp only [Act.put, List.setIfInBounds_toArray, List.set_cons_zero, List.set_cons_succ]
                refine wpAnyH_take (i := 13) (oi := { dst := some 50, op := Op.load 2 (Operand.tmp 49), type := 2, pos := "ref.go:216", after := #[{ on := 12, ground := Ground.data }], guard := none }) (v := ?_) rfl (by kernel_rfl) (by kernel_rfl) (by kernel_rfl) (fun _ _ _ h => h) (Or.inl ⟨by rfl, ?_⟩) hHeld ?_
                rotate_left 1
                · intro W hSw
                  (try dsimp only at hSw)
                  go_simp
                  try with_reducible rfl
                try simp only [Act.put, List.setIfInBounds_toArray, List.set_cons_zero, List.set_cons_succ]
                refine wpAnyH_take (i := 15) (oi := { dst := some 52, op := Op.move (Operand.tmp 4), type := 76, pos := "ref.go:216", after := #[], guard := none }) (v := ?_) rfl (by kernel_rfl) (by kernel_rfl) (by kernel_rfl) (fun _ _ _ h => h) (Or.inl ⟨by rfl, ?_⟩) hHeld ?_
                rotate_left 1
                · intro W hSw
                  (try dsimp only at hSw)
                  go_simp
                  try with_reducible rfl
                try simp only [Act.put, List.setIfInBounds_toArray, List.set_cons_zero, List.set_cons_succ]
                refine wpAnyH_take (i := 16) (oi := { dst := some 53, op := Op.indexAddr 76 (Operand.tmp 52) (Operand.const (Value.int IntKind.i64 7)), type := 0, pos := "ref.go:216", after := #[{ on := 15, ground := Ground.data }], guard := none }) (v := ?_) rfl (by kernel_rfl) (by kernel_rfl) (by kernel_rfl) (fun _ _ _ h => h) (Or.inl ⟨by rfl, ?_⟩) hHeld ?_
                rotate_left 1
                · intro W hSw
                  (try dsimp only at hSw)
                  go_simp
                  try with_reducible rfl
                try simp only [Act.put, List.setIfInBounds_toArray, List.set_cons_zero, List.set_cons_succ]
                refine wpAnyH_take (i := 17) (oi := { dst := some 54, op := Op.fieldAddr 86 (Operand.tmp 53) 1, type := 0, pos := "ref.go:216", after := #[{ on := 16, ground := Ground.data }], guard := none }) (v := ?_) rfl (by kernel_rfl) (by kernel_rfl) (by kernel_rfl) (fun _ _ _ h => h) (Or.inl ⟨by rfl, ?_⟩) hHeld ?_
                rotate_left 1
                · intro W hSw
                  (try dsimp only at hSw)
                  go_simp
                  try with_reducible rfl
                try simp only [Act.put, List.setIfInBounds_toArray, List.set_cons_zero, List.set_cons_succ]
                refine wpAnyH_take (i := 18) (oi := { dst := some 55, op := Op.load 2 (Operand.tmp 54), type := 2, pos := "ref.go:216", after := #[{ on := 17, ground := Ground.data }], guard := none }) (v := ?_) rfl (by kernel_rfl) (by kernel_rfl) (by kernel_rfl) (fun _ _ _ h => h) (Or.inl ⟨by rfl, ?_⟩) hHeld ?_
                rotate_left 1
                · intro W hSw
                  (try dsimp only at hSw)
                  go_simp
                  try with_reducible rfl
                try simp only [Act.put, List.setIfInBounds_toArray, List.set_cons_zero, List.set_cons_succ]
                refine wpAnyH_ready (rs := [4]) (by kernel_rfl) (by simp) ?_
                refine AllReadyH.cons (o := { dst := some 41, op := Op.call { callee := Callee.value (Operand.func 57), args := #[Operand.tmp 40], argTypes := #[2] }, type := 3, pos := "ref.go:216", after := #[{ on := 3, ground := Ground.data }], guard := none }) rfl (fun K7 hK7 => ?_) ?_
                · go_simp
                  refine (rsmall_any _ _).mono ?_
                  rintro e w7 ⟨rfl, rfl⟩
                  try dsimp only
                  refine hK7.out _ _ (S50) (fun hHeld => ?_)
                  clear hK7 K7
                  try simp only [Act.put, List.setIfInBounds_toArray, List.set_cons_zero, List.set_cons_succ]
                  refine wpAnyH_ready (rs := [9]) (by kernel_rfl) (by simp) ?_
                  refine AllReadyH.cons (o := { dst := some 46, op := Op.call { callee := Callee.value (Operand.func 57), args := #[Operand.tmp 45], argTypes := #[2] }, type := 3, pos := "ref.go:216", after := #[{ on := 8, ground := Ground.data }, { on := 4, ground := Ground.chain }], guard := none }) rfl (fun K7 hK7 => ?_) ?_
                  · go_simp
                    refine (rsmall_any _ _).mono ?_
                    rintro e w7 ⟨rfl, rfl⟩
                    try dsimp only
                    refine hK7.out _ _ (S50) (fun hHeld => ?_)
                    clear hK7 K7
                    try simp only [Act.put, List.setIfInBounds_toArray, List.set_cons_zero, List.set_cons_succ]
                    refine wpAnyH_ready (rs := [14]) (by kernel_rfl) (by simp) ?_
                    refine AllReadyH.cons (o := { dst := some 51, op := Op.call { callee := Callee.value (Operand.func 57), args := #[Operand.tmp 50], argTypes := #[2] }, type := 3, pos := "ref.go:216", after := #[{ on := 13, ground := Ground.data }, { on := 9, ground := Ground.chain }], guard := none }) rfl (fun K7 hK7 => ?_) ?_
                    · go_simp
                      refine (rsmall_any _ _).mono ?_
                      rintro e w7 ⟨rfl, rfl⟩
                      try dsimp only
                      refine hK7.out _ _ (S50) (fun hHeld => ?_)
                      clear hK7 K7
                      try simp only [Act.put, List.setIfInBounds_toArray, List.set_cons_zero, List.set_cons_succ]
                      refine wpAnyH_ready (rs := [19]) (by kernel_rfl) (by simp) ?_
                      refine AllReadyH.cons (o := { dst := some 56, op := Op.call { callee := Callee.value (Operand.func 57), args := #[Operand.tmp 55], argTypes := #[2] }, type := 3, pos := "ref.go:216", after := #[{ on := 18, ground := Ground.data }, { on := 14, ground := Ground.chain }], guard := none }) rfl (fun K7 hK7 => ?_) ?_
                      · go_simp
                        refine (rsmall_any _ _).mono ?_
                        rintro e w7 ⟨rfl, rfl⟩
                        try dsimp only
                        refine hK7.out _ _ (S50) (fun hHeld => ?_)
                        clear hK7 K7
                        try simp only [Act.put, List.setIfInBounds_toArray, List.set_cons_zero, List.set_cons_succ]
                        refine wpAnyH_take (i := 20) (oi := { dst := some 57, op := Op.build 29 #[(0, Operand.tmp 41), (1, Operand.tmp 46), (2, Operand.tmp 51), (3, Operand.tmp 56)], type := 29, pos := "ref.go:216", after := #[{ on := 4, ground := Ground.data }, { on := 9, ground := Ground.data }, { on := 14, ground := Ground.data }, { on := 19, ground := Ground.data }], guard := none }) (v := ?_) rfl (by kernel_rfl) (by kernel_rfl) (by kernel_rfl) (fun _ _ _ h => h) (Or.inl ⟨by rfl, ?_⟩) hHeld ?_
                        rotate_left 1
                        · intro W hSw
                          (try dsimp only at hSw)
                          go_simp
                          try with_reducible rfl
                        try simp only [Act.put, List.setIfInBounds_toArray, List.set_cons_zero, List.set_cons_succ]
                        refine wpAnyH_take (i := 21) (oi := { dst := some 58, op := Op.fieldAddr 31 (Operand.tmp 6) 4, type := 0, pos := "ref.go:216", after := #[{ on := 0, ground := Ground.phase }, { on := 1, ground := Ground.phase }, { on := 2, ground := Ground.phase }, { on := 3, ground := Ground.phase }, { on := 4, ground := Ground.phase }, { on := 5, ground := Ground.phase }, { on := 6, ground := Ground.phase }, { on := 7, ground := Ground.phase }, { on := 8, ground := Ground.phase }, { on := 9, ground := Ground.phase }, { on := 10, ground := Ground.phase }, { on := 11, ground := Ground.phase }, { on := 12, ground := Ground.phase }, { on := 13, ground := Ground.phase }, { on := 14, ground := Ground.phase }, { on := 15, ground := Ground.phase }, { on := 16, ground := Ground.phase }, { on := 17, ground := Ground.phase }, { on := 18, ground := Ground.phase }, { on := 19, ground := Ground.phase }, { on := 20, ground := Ground.phase }], guard := none }) (v := ?_) rfl (by kernel_rfl) (by kernel_rfl) (by kernel_rfl) (fun _ _ _ h => h) (Or.inl ⟨by rfl, ?_⟩) hHeld ?_
                        rotate_left 1
                        · intro W hSw
                          (try dsimp only at hSw)
                          go_simp
                          try with_reducible rfl
                        try simp only [Act.put, List.setIfInBounds_toArray, List.set_cons_zero, List.set_cons_succ]
                        refine wpAnyH_ready (rs := [22]) (by kernel_rfl) (by simp) ?_
                        refine AllReadyH.cons (o := { dst := none, op := Op.store 29 (Operand.tmp 58) (Operand.tmp 57), type := 0, pos := "ref.go:216", after := #[{ on := 21, ground := Ground.data }, { on := 20, ground := Ground.data }, { on := 19, ground := Ground.chain }, { on := 0, ground := Ground.phase }, { on := 1, ground := Ground.phase }, { on := 2, ground := Ground.phase }, { on := 3, ground := Ground.phase }, { on := 4, ground := Ground.phase }, { on := 5, ground := Ground.phase }, { on := 6, ground := Ground.phase }, { on := 7, ground := Ground.phase }, { on := 8, ground := Ground.phase }, { on := 9, ground := Ground.phase }, { on := 10, ground := Ground.phase }, { on := 11, ground := Ground.phase }, { on := 12, ground := Ground.phase }, { on := 13, ground := Ground.phase }, { on := 14, ground := Ground.phase }, { on := 15, ground := Ground.phase }, { on := 16, ground := Ground.phase }, { on := 17, ground := Ground.phase }, { on := 18, ground := Ground.phase }, { on := 19, ground := Ground.phase }, { on := 20, ground := Ground.phase }], guard := none }) rfl (fun K7 hK7 => ?_) ?_
                        · refine wp_store_mid 29 _ _ rfl w6.heap.size 4 #[.int .i64 (sm f4.num), .int .i64 (sm f5.num), .int .i64 (sm f6.num), .int .i64 (sm f7.num)] rfl rfl (there4 HX7d.out) sizePool (by simp [Value.oneCell']) ?_
                          refine hK7.out _ _ (⟨(set8o_cell S50.1 hbne 4 _), (set8o_cell S50.2.1 hbne 4 _), (set8o_cell S50.2.2.1 hbne 4 _), (set8o_cell S50.2.2.2 hbne 4 _)⟩) (fun hHeld => ?_)
                          clear hK7 K7
                          try simp only [Act.put, List.setIfInBounds_toArray, List.set_cons_zero, List.set_cons_succ]
                          refine wpAnyH_done (by kernel_rfl) ?_ _
                          clear hHeld
                          have HX8 := Lib.hid (show IBx (W7.drew.setCells w6.heap.size 4 #[.int .i64 (sm f4.num), .int .i64 (sm f5.num), .int .i64 (sm f6.num), .int .i64 (sm f7.num)].toList) w6.heap.size ⟨sm f0.num, sm f1.num, sm f2.num, f3.num, ⟨sm f4.num, sm f5.num, sm f6.num, sm f7.num⟩⟩ from putPool HX7d.out _ _ _ _)
                          have HB8 := Lib.hid (show Below w.heap.size w (W7.drew.setCells w6.heap.size 4 #[.int .i64 (sm f4.num), .int .i64 (sm f5.num), .int .i64 (sm f6.num), .int .i64 (sm f7.num)].toList) from HBw6.out.trans ((show Below w6.heap.size w6 _ from Below.setCells (show Below w6.heap.size w6 W7.drew from below_drew HB7.out) (Nat.le_refl _) 4 _).mono HBw6.out.size))
                          have HI8 := Lib.hid (show IBx (W7.drew.setCells w6.heap.size 4 #[.int .i64 (sm f4.num), .int .i64 (sm f5.num), .int .i64 (sm f6.num), .int .i64 (sm f7.num)].toList) w.heap.size incZ from HI6.out.keep (show Below w6.heap.size w6 _ from Below.setCells (show Below w6.heap.size w6 W7.drew from below_drew HB7.out) (Nat.le_refl _) 4 _))
                          clear S50 HX7d HX7 HB7
                          generalize W7.drew.setCells w6.heap.size 4 #[.int .i64 (sm f4.num), .int .i64 (sm f5.num), .int .i64 (sm f6.num), .int .i64 (sm f7.num)].toList = W8 at HX8 HB8 HI8 ⊢
                          obtain ⟨M, hM⟩ : ∃ M, w6.heap.size = M := ⟨_, rfl⟩
                          rw [hM] at HX8 ⊢
                          clear hM
                          obtain ⟨c0, c1, c2, c3, c4, c5, c6, c7⟩ := HX8.out.cells
                          simp only at c0 c1 c2 c3 c4 c5 c6 c7
                          cases q with
                          | false =>
                            go_wp2_with (first
                              | (go_at_call 21; refine (HIn.out _).mono ?_; rintro e w9 ⟨rfl, hb⟩; have HB9 := Lib.hid (HB8.out.trans (hb.mono HB8.out.size)); have HI9 := Lib.hid (HI8.out.keep hb); clear hb c0 c1 c2 c3 c4 c5 c6 c7)
                              | (refine wpList_store_mid rfl 31 _ _ rfl w.heap.size 0 (IncV.cells incZ).toArray rfl rfl HI9.out.there sizeInc (all_oneCell_toArray (IncV.one _)) ?_))
                            refine bodyPost_ret (ret_cell_tmp rfl rfl (HI9.out.put incZ).range Tryz.underlying31 rfl sizeInc) rfl ?_
                            rw [HDr.out]
                            exact ⟨rfl, Below.setCells HB9.out (b := w.heap.size) (Nat.le_refl _) 0 (IncV.cells incZ)⟩
                          | true =>
                            go_wp2_with (first
                              | (go_at_call 21; refine (HIn.out _).mono ?_; rintro e w9 ⟨rfl, hb⟩; have HB9 := Lib.hid (HB8.out.trans (hb.mono HB8.out.size)); have HI9 := Lib.hid (HI8.out.keep hb); clear c0 c1 c2 c3 c4 c5 c6 c7; obtain ⟨c0, c1, c2, c3, c4, c5, c6, c7⟩ := (HX8.out.keep hb).cells; simp only at c0 c1 c2 c3 c4 c5 c6 c7; clear hb)
                              | (refine wpList_store_mid rfl 31 _ _ rfl w.heap.size 0 (IncV.cells ⟨sm f0.num, sm f1.num, sm f2.num, f3.num, ⟨sm f4.num, sm f5.num, sm f6.num, sm f7.num⟩⟩).toArray rfl rfl HI9.out.there sizeInc (all_oneCell_toArray (IncV.one _)) ?_; clear c0 c1 c2 c3 c4 c5 c6 c7))
                            refine bodyPost_ret (ret_cell_tmp rfl rfl (HI9.out.put ⟨sm f0.num, sm f1.num, sm f2.num, f3.num, ⟨sm f4.num, sm f5.num, sm f6.num, sm f7.num⟩⟩).range Tryz.underlying31 rfl sizeInc) rfl ?_
                            rw [HDr.out, if_pos trivial, ← HEq.out (by first | rfl | trivial)]
                            exact ⟨rfl, Below.setCells HB9.out (b := w.heap.size) (Nat.le_refl _) 0 (IncV.cells ⟨sm f0.num, sm f1.num, sm f2.num, f3.num, ⟨sm f4.num, sm f5.num, sm f6.num, sm f7.num⟩⟩)⟩
                        exact AllReadyH.nil
                      exact AllReadyH.nil
                    exact AllReadyH.nil
                  exact AllReadyH.nil
                exact AllReadyH.nil
              exact AllReadyH.nil
            exact AllReadyH.nil
          exact AllReadyH.nil
        exact AllReadyH.nil
      refine AllReadyH.cons (o := { dst := some 6, op := Op.alloc 31, type := 0, pos := "ref.go:215", after := #[], guard := none }) rfl (fun K7 hK7 => ?_) ?_
      · go_simp
        refine hK7.out _ _ (S1) (fun hHeld => ?_)
        clear hK7 K7
        try simp only [Act.put, List.setIfInBounds_toArray, List.set_cons_zero, List.set_cons_succ]
        refine wpAnyH_ready (rs := [4]) (by kernel_rfl) (by simp) ?_
        refine AllReadyH.cons (o := { dst := some 21, op := Op.call { callee := Callee.value (Operand.func 57), args := #[Operand.tmp 20], argTypes := #[2] }, type := 3, pos := "ref.go:215", after := #[{ on := 3, ground := Ground.data }], guard := none }) rfl (fun K7 hK7 => ?_) ?_
        · go_simp
          refine (rsmall_any _ _).mono ?_
          rintro e w7 ⟨rfl, rfl⟩
          try dsimp only
          refine hK7.out _ _ (by first | exact S0 | exact S1) (fun hHeld => ?_)
          clear hK7 K7
          try simp only [Act.put, List.setIfInBounds_toArray, List.set_cons_zero, List.set_cons_succ]
          refine wpAnyH_ready (rs := [9]) (by kernel_rfl) (by simp) ?_
          refine AllReadyH.cons (o := { dst := some 26, op := Op.call { callee := Callee.value (Operand.func 57), args := #[Operand.tmp 25], argTypes := #[2] }, type := 3, pos := "ref.go:215", after := #[{ on := 8, ground := Ground.data }, { on := 4, ground := Ground.chain }], guard := none }) rfl (fun K7 hK7 => ?_) ?_
          · go_simp
            refine (rsmall_any _ _).mono ?_
            rintro e w7 ⟨rfl, rfl⟩
            try dsimp only
            refine hK7.out _ _ (by first | exact S0 | exact S1) (fun hHeld => ?_)
            clear hK7 K7
            try simp only [Act.put, List.setIfInBounds_toArray, List.set_cons_zero, List.set_cons_succ]
            refine wpAnyH_ready (rs := [14]) (by kernel_rfl) (by simp) ?_
            refine AllReadyH.cons (o := { dst := some 31, op := Op.call { callee := Callee.value (Operand.func 57), args := #[Operand.tmp 30], argTypes := #[2] }, type := 3, pos := "ref.go:215", after := #[{ on := 13, ground := Ground.data }, { on := 9, ground := Ground.chain }], guard := none }) rfl (fun K7 hK7 => ?_) ?_
            · go_simp
              refine (rsmall_any _ _).mono ?_
              rintro e w7 ⟨rfl, rfl⟩
              try dsimp only
              refine hK7.out _ _ (by first | exact S0 | exact S1) (fun hHeld => ?_)
              clear hK7 K7
              try simp only [Act.put, List.setIfInBounds_toArray, List.set_cons_zero, List.set_cons_succ]
              refine wpAnyH_take (i := 19) (oi := { dst := some 36, op := Op.build 31 #[(0, Operand.tmp 21), (1, Operand.tmp 26), (2, Operand.tmp 31), (3, Operand.tmp 35)], type := 31, pos := "ref.go:215", after := #[{ on := 4, ground := Ground.data }, { on := 9, ground := Ground.data }, { on := 14, ground := Ground.data }, { on := 18, ground := Ground.data }], guard := none }) (v := ?_) rfl (by kernel_rfl) (by kernel_rfl) (by kernel_rfl) (fun _ _ _ h => h) (Or.inl ⟨by rfl, ?_⟩) hHeld ?_
              rotate_left 1
              · intro W hSw
                (try dsimp only at hSw)
                go_simp
                try with_reducible rfl
              try simp only [Act.put, List.setIfInBounds_toArray, List.set_cons_zero, List.set_cons_succ]
              refine wpAnyH_ready (rs := [21]) (by kernel_rfl) (by simp) ?_
              refine AllReadyH.cons (o := { dst := none, op := Op.store 31 (Operand.tmp 6) (Operand.tmp 36), type := 0, pos := "ref.go:215", after := #[{ on := 20, ground := Ground.data }, { on := 19, ground := Ground.data }, { on := 14, ground := Ground.chain }, { on := 0, ground := Ground.phase }, { on := 1, ground := Ground.phase }, { on := 2, ground := Ground.phase }, { on := 3, ground := Ground.phase }, { on := 4, ground := Ground.phase }, { on := 5, ground := Ground.phase }, { on := 6, ground := Ground.phase }, { on := 7, ground := Ground.phase }, { on := 8, ground := Ground.phase }, { on := 9, ground := Ground.phase }, { on := 10, ground := Ground.phase }, { on := 11, ground := Ground.phase }, { on := 12, ground := Ground.phase }, { on := 13, ground := Ground.phase }, { on := 14, ground := Ground.phase }, { on := 15, ground := Ground.phase }, { on := 16, ground := Ground.phase }, { on := 17, ground := Ground.phase }, { on := 18, ground := Ground.phase }, { on := 19, ground := Ground.phase }, { on := 20, ground := Ground.phase }], guard := none }) rfl (fun K7 hK7 => ?_) ?_
              · refine wp_store_mid 31 _ _ rfl w6.heap.size 0 #[.int .i64 (sm f0.num), .int .i64 (sm f1.num), .int .i64 (sm f2.num), .int .i64 f3.num, .int .i64 0, .int .i64 0, .int .i64 0, .int .i64 0] rfl rfl HXz.out.there sizeInc (by simp [Value.oneCell']) ?_
                refine hK7.out _ _ (⟨(set8_cell S1.1 hbne _), (set8_cell S1.2.1 hbne _), (set8_cell S1.2.2.1 hbne _), (set8_cell S1.2.2.2 hbne _)⟩) (fun hHeld => ?_)
                clear hK7 K7
                try simp only [Act.put, List.setIfInBounds_toArray, List.set_cons_zero, List.set_cons_succ]
                refine wpAnyH_done (by kernel_rfl) ?_ _
                clear hHeld
                have HX7 := Lib.hid (show IBx ((w6.alloc (.cells #[.int .i64 0, .int .i64 0, .int .i64 0, .int .i64 0, .int .i64 0, .int .i64 0, .int .i64 0, .int .i64 0] 31)).drew.setCells w6.heap.size 0 #[.int .i64 (sm f0.num), .int .i64 (sm f1.num), .int .i64 (sm f2.num), .int .i64 f3.num, .int .i64 0, .int .i64 0, .int .i64 0, .int .i64 0].toList) w6.heap.size ⟨sm f0.num, sm f1.num, sm f2.num, f3.num, ⟨0, 0, 0, 0⟩⟩ from HXz.out.put ⟨sm f0.num, sm f1.num, sm f2.num, f3.num, ⟨0, 0, 0, 0⟩⟩)
                have HB7 := Lib.hid (show Below w6.heap.size w6 ((w6.alloc (.cells #[.int .i64 0, .int .i64 0, .int .i64 0, .int .i64 0, .int .i64 0, .int .i64 0, .int .i64 0, .int .i64 0] 31)).drew.setCells w6.heap.size 0 #[.int .i64 (sm f0.num), .int .i64 (sm f1.num), .int .i64 (sm f2.num), .int .i64 f3.num, .int .i64 0, .int .i64 0, .int .i64 0, .int .i64 0].toList) from Below.setCells HBz.out (Nat.le_refl _) 0 _)
                clear S0 S1 HBz HXz
                generalize (w6.alloc (.cells #[.int .i64 0, .int .i64 0, .int .i64 0, .int .i64 0, .int .i64 0, .int .i64 0, .int .i64 0, .int .i64 0] 31)).drew.setCells w6.heap.size 0 #[.int .i64 (sm f0.num), .int .i64 (sm f1.num), .int .i64 (sm f2.num), .int .i64 f3.num, .int .i64 0, .int .i64 0, .int .i64 0, .int .i64 0].toList = W7 at HX7 HB7 ⊢
                go_upto_region 5 with fail
                have S50 : W7.drew.cell? ⟨b, off + 16 + 1, none⟩ = some (.int .i64 f4.num) ∧ W7.drew.cell? ⟨b, off + 20 + 1, none⟩ = some (.int .i64 f5.num) ∧ W7.drew.cell? ⟨b, off + 24 + 1, none⟩ = some (.int .i64 f6.num) ∧ W7.drew.cell? ⟨b, off + 28 + 1, none⟩ = some (.int .i64 f7.num) := ⟨cell_keep d4 (below_drew HB7.out), cell_keep d5 (below_drew HB7.out), cell_keep d6 (below_drew HB7.out), cell_keep d7 (below_drew HB7.out)⟩
                have HX7d := Lib.hid (show IBx W7.drew w6.heap.size _ from HX7.out)
                refine wp_region_held_drew (S := fun u => u.cell? ⟨b, off + 16 + 1, none⟩ = some (.int .i64 f4.num) ∧ u.cell? ⟨b, off + 20 + 1, none⟩ = some (.int .i64 f5.num) ∧ u.cell? ⟨b, off + 24 + 1, none⟩ = some (.int .i64 f6.num) ∧ u.cell? ⟨b, off + 28 + 1, none⟩ = some (.int .i64 f7.num)) (by kernel_rfl) (S50) (fun hHeld => ?_)
                refine wpAnyH_take (i := 0) (oi := { dst := some 37, op := Op.move (Operand.tmp 4), type := 76, pos := "ref.go:216", after := #[], guard := none }) (v := ?_) rfl (by kernel_rfl) (by kernel_rfl) (by kernel_rfl) (fun _ _ _ h => h) (Or.inl ⟨by rfl, ?_⟩) hHeld ?_
                rotate_left 1
                · intro W hSw
                  (try dsimp only at hSw)
                  go_simp
                  try with_reducible rfl
                try simp only [Act.put, List.setIfInBounds_toArray, List.set_cons_zero, List.set_cons_succ]
                refine wpAnyH_take (i := 1) (oi := { dst := some 38, op := Op.indexAddr 76 (Operand.tmp 37) (Operand.const (Value.int IntKind.i64 4)), type := 0, pos := "ref.go:216", after := #[{ on := 0, ground := Ground.data }], guard := none }) (v := ?_) rfl (by kernel_rfl) (by kernel_rfl) (by kernel_rfl) (fun _ _ _ h => h) (Or.inl ⟨by rfl, ?_⟩) hHeld ?_
                rotate_left 1
                · intro W hSw
                  (try dsimp only at hSw)
                  go_simp
                  try with_reducible rfl
                try simp only [Act.put, List.setIfInBounds_toArray, List.set_cons_zero, List.set_cons_succ]
                refine wpAnyH_take (i := 2) (oi := { dst := some 39, op := Op.fieldAddr 86 (Operand.tmp 38) 1, type := 0, pos := "ref.go:216", after := #[{ on := 1, ground := Ground.data }], guard := none }) (v := ?_) rfl (by kernel_rfl) (by kernel_rfl) (by kernel_rfl) (fun _ _ _ h => h) (Or.inl ⟨by rfl, ?_⟩) hHeld ?_
                rotate_left 1
                · intro W hSw
                  (try dsimp only at hSw)
                  go_simp
                  try with_reducible rfl
                try simp only [Act.put, List.setIfInBounds_toArray, List.set_cons_zero, List.set_cons_succ]
                refine wpAnyH_take (i := 3) (oi := { dst := some 40, op := Op.load 2 (Operand.tmp 39), type := 2, pos := "ref.go:216", after := #[{ on := 2, ground := Ground.data }], guard := none }) (v := ?_) rfl (by kernel_rfl) (by kernel_rfl) (by kernel_rfl) (fun _ _ _ h => h) (Or.inl ⟨by rfl, ?_⟩) hHeld ?_
                rotate_left 1
                · intro W hSw
                  (try dsimp only at hSw)
                  go_simp
                  try with_reducible rfl
                try simp only [Act.put, List.setIfInBounds_toArray, List.set_cons_zero, List.set_cons_succ]
                refine wpAnyH_take (i := 5) (oi := { dst := some 42, op := Op.move (Operand.tmp 4), type := 76, pos := "ref.go:216", after := #[], guard := none }) (v := ?_) rfl (by kernel_rfl) (by kernel_rfl) (by kernel_rfl) (fun _ _ _ h => h) (Or.inl ⟨by rfl, ?_⟩) hHeld ?_
                rotate_left 1
                · intro W hSw
                  (try dsimp only at hSw)
                  go_simp
                  try with_reducible rfl
                try simp only [Act.put, List.setIfInBounds_toArray, List.set_cons_zero, List.set_cons_succ]
                refine wpAnyH_take (i := 6) (oi := { dst := some 43, op := Op.indexAddr 76 (Operand.tmp 42) (Operand.const (Value.int IntKind.i64 5)), type := 0, pos := "ref.go:216", after := #[{ on := 5, ground := Ground.data }], guard := none }) (v := ?_) rfl (by kernel_rfl) (by kernel_rfl) (by kernel_rfl) (fun _ _ _ h => h) (Or.inl ⟨by rfl, ?_⟩) hHeld ?_
                rotate_left 1
                · intro W hSw
                  (try dsimp only at hSw)
                  go_simp
                  try with_reducible rfl
                try simp only [Act.put, List.setIfInBounds_toArray, List.set_cons_zero, List.set_cons_succ]
                refine wpAnyH_take (i := 7) (oi := { dst := some 44, op := Op.fieldAddr 86 (Operand.tmp 43) 1, type := 0, pos := "ref.go:216", after := #[{ on := 6, ground := Ground.data }], guard := none }) (v := ?_) rfl (by kernel_rfl) (by kernel_rfl) (by kernel_rfl) (fun _ _ _ h => h) (Or.inl ⟨by rfl, ?_⟩) hHeld ?_
                rotate_left 1
                · intro W hSw
                  (try dsimp only at hSw)
                  go_simp
                  try with_reducible rfl
                try simp only [Act.put, List.setIfInBounds_toArray, List.set_cons_zero, List.set_cons_succ]
                refine wpAnyH_take (i := 8) (oi := { dst := some 45, op := Op.load 2 (Operand.tmp 44), type := 2, pos := "ref.go:216", after := #[{ on := 7, ground := Ground.data }], guard := none }) (v := ?_) rfl (by kernel_rfl) (by kernel_rfl) (by kernel_rfl) (fun _ _ _ h => h) (Or.inl ⟨by rfl, ?_⟩) hHeld ?_
                rotate_left 1
                · intro W hSw
                  (try dsimp only at hSw)
                  go_simp
                  try with_reducible rfl
                try simp only [Act.put, List.setIfInBounds_toArray, List.set_cons_zero, List.set_cons_succ]
                refine wpAnyH_take (i := 10) (oi := { dst := some 47, op := Op.move (Operand.tmp 4), type := 76, pos := "ref.go:216", after := #[], guard := none }) (v := ?_) rfl (by kernel_rfl) (by kernel_rfl) (by kernel_rfl) (fun _ _ _ h => h) (Or.inl ⟨by rfl, ?_⟩) hHeld ?_
                rotate_left 1
                · intro W hSw
                  (try dsimp only at hSw)
                  go_simp
                  try with_reducible rfl
                try simp only [Act.put, List.setIfInBounds_toArray, List.set_cons_zero, List.set_cons_succ]
                refine wpAnyH_take (i := 11) (oi := { dst := some 48, op := Op.indexAddr 76 (Operand.tmp 47) (Operand.const (Value.int IntKind.i64 6)), type := 0, pos := "ref.go:216", after := #[{ on := 10, ground := Ground.data }], guard := none }) (v := ?_) rfl (by kernel_rfl) (by kernel_rfl) (by kernel_rfl) (fun _ _ _ h => h) (Or.inl ⟨by rfl, ?_⟩) hHeld ?_
                rotate_left 1
                · intro W hSw
                  (try dsimp only at hSw)
                  go_simp
                  try with_reducible rfl
                try simp only [Act.put, List.setIfInBounds_toArray, List.set_cons_zero, List.set_cons_succ]
                refine wpAnyH_take (i := 12) (oi := { dst := some 49, op := Op.fieldAddr 86 (Operand.tmp 48) 1, type := 0, pos := "ref.go:216", after := #[{ on := 11, ground := Ground.data }], guard := none }) (v := ?_) rfl (by kernel_rfl) (by kernel_rfl) (by kernel_rfl) (fun _ _ _ h => h) (Or.inl ⟨by rfl, ?_⟩) hHeld ?_
                rotate_left 1
                · intro W hSw
                  (try dsimp only at hSw)
                  go_simp
                  try with_reducible rfl
                try simp only [Act.put, List.setIfInBounds_toArray, List.set_cons_zero, List.set_cons_succ]
                refine wpAnyH_take (i := 13) (oi := { dst := some 50, op := Op.load 2 (Operand.tmp 49), type := 2, pos := "ref.go:216", after := #[{ on := 12, ground := Ground.data }], guard := none }) (v := ?_) rfl (by kernel_rfl) (by kernel_rfl) (by kernel_rfl) (fun _ _ _ h => h) (Or.inl ⟨by rfl, ?_⟩) hHeld ?_
                rotate_left 1
                · intro W hSw
                  (try dsimp only at hSw)
                  go_simp
                  try with_reducible rfl
                try simp only [Act.put, List.setIfInBounds_toArray, List.set_cons_zero, List.set_cons_succ]
                refine wpAnyH_take (i := 15) (oi := { dst := some 52, op := Op.move (Operand.tmp 4), type := 76, pos := "ref.go:216", after := #[], guard := none }) (v := ?_) rfl (by kernel_rfl) (by kernel_rfl) (by kernel_rfl) (fun _ _ _ h => h) (Or.inl ⟨by rfl, ?_⟩) hHeld ?_
                rotate_left 1
                · intro W hSw
                  (try dsimp only at hSw)
                  go_simp
                  try with_reducible rfl
                try simp only [Act.put, List.setIfInBounds_toArray, List.set_cons_zero, List.set_cons_succ]
                refine wpAnyH_take (i := 16) (oi := { dst := some 53, op := Op.indexAddr 76 (Operand.tmp 52) (Operand.const (Value.int IntKind.i64 7)), type := 0, pos := "ref.go:216", after := #[{ on := 15, ground := Ground.data }], guard := none }) (v := ?_) rfl (by kernel_rfl) (by kernel_rfl) (by kernel_rfl) (fun _ _ _ h => h) (Or.inl ⟨by rfl, ?_⟩) hHeld ?_
                rotate_left 1
                · intro W hSw
                  (try dsimp only at hSw)
                  go_simp
                  try with_reducible rfl
                try simp only [Act.put, List.setIfInBounds_toArray, List.set_cons_zero, List.set_cons_succ]
                refine wpAnyH_take (i := 17) (oi := { dst := some 54, op := Op.fieldAddr 86 (Operand.tmp 53) 1, type := 0, pos := "ref.go:216", after := #[{ on := 16, ground := Ground.data }], guard := none }) (v := ?_) rfl (by kernel_rfl) (by kernel_rfl) (by kernel_rfl) (fun _ _ _ h => h) (Or.inl ⟨by rfl, ?_⟩) hHeld ?_
                rotate_left 1
                · intro W hSw
                  (try dsimp only at hSw)
                  go_simp
                  try with_reducible rfl
                try simp only [Act.put, List.setIfInBounds_toArray, List.set_cons_zero, List.set_cons_succ]
                refine wpAnyH_take (i := 18) (oi := { dst := some 55, op := Op.load 2 (Operand.tmp 54), type := 2, pos := "ref.go:216", after := #[{ on := 17, ground := Ground.data }], guard := none }) (v := ?_) rfl (by kernel_rfl) (by kernel_rfl) (by kernel_rfl) (fun _ _ _ h => h) (Or.inl ⟨by rfl, ?_⟩) hHeld ?_
                rotate_left 1
                · intro W hSw
                  (try dsimp only at hSw)
                  go_simp
                  try with_reducible rfl
                try simp only [Act.put, List.setIfInBounds_toArray, List.set_cons_zero, List.set_cons_succ]
                refine wpAnyH_ready (rs := [4]) (by kernel_rfl) (by simp) ?_
                refine AllReadyH.cons (o := { dst := some 41, op := Op.call { callee := Callee.value (Operand.func 57), args := #[Operand.tmp 40], argTypes := #[2] }, type := 3, pos := "ref.go:216", after := #[{ on := 3, ground := Ground.data }], guard := none }) rfl (fun K7 hK7 => ?_) ?_
                · go_simp
                  refine (rsmall_any _ _).mono ?_
                  rintro e w7 ⟨rfl, rfl⟩
                  try dsimp only
                  refine hK7.out _ _ (S50) (fun hHeld => ?_)
                  clear hK7 K7
                  try simp only [Act.put, List.setIfInBounds_toArray, List.set_cons_zero, List.set_cons_succ]
                  refine wpAnyH_ready (rs := [9]) (by kernel_rfl) (by simp) ?_
                  refine AllReadyH.cons (o := { dst := some 46, op := Op.call { callee := Callee.value (Operand.func 57), args := #[Operand.tmp 45], argTypes := #[2] }, type := 3, pos := "ref.go:216", after := #[{ on := 8, ground := Ground.data }, { on := 4, ground := Ground.chain }], guard := none }) rfl (fun K7 hK7 => ?_) ?_
                  · go_simp
                    refine (rsmall_any _ _).mono ?_
                    rintro e w7 ⟨rfl, rfl⟩
                    try dsimp only
                    refine hK7.out _ _ (S50) (fun hHeld => ?_)
                    clear hK7 K7
                    try simp only [Act.put, List.setIfInBounds_toArray, List.set_cons_zero, List.set_cons_succ]
                    refine wpAnyH_ready (rs := [14]) (by kernel_rfl) (by simp) ?_
                    refine AllReadyH.cons (o := { dst := some 51, op := Op.call { callee := Callee.value (Operand.func 57), args := #[Operand.tmp 50], argTypes := #[2] }, type := 3, pos := "ref.go:216", after := #[{ on := 13, ground := Ground.data }, { on := 9, ground := Ground.chain }], guard := none }) rfl (fun K7 hK7 => ?_) ?_
                    · go_simp
                      refine (rsmall_any _ _).mono ?_
                      rintro e w7 ⟨rfl, rfl⟩
                      try dsimp only
                      refine hK7.out _ _ (S50) (fun hHeld => ?_)
                      clear hK7 K7
                      try simp only [Act.put, List.setIfInBounds_toArray, List.set_cons_zero, List.set_cons_succ]
                      refine wpAnyH_ready (rs := [19]) (by kernel_rfl) (by simp) ?_
                      refine AllReadyH.cons (o := { dst := some 56, op := Op.call { callee := Callee.value (Operand.func 57), args := #[Operand.tmp 55], argTypes := #[2] }, type := 3, pos := "ref.go:216", after := #[{ on := 18, ground := Ground.data }, { on := 14, ground := Ground.chain }], guard := none }) rfl (fun K7 hK7 => ?_) ?_
                      · go_simp
                        refine (rsmall_any _ _).mono ?_
                        rintro e w7 ⟨rfl, rfl⟩
                        try dsimp only
                        refine hK7.out _ _ (S50) (fun hHeld => ?_)
                        clear hK7 K7
                        try simp only [Act.put, List.setIfInBounds_toArray, List.set_cons_zero, List.set_cons_succ]
                        refine wpAnyH_take (i := 20) (oi := { dst := some 57, op := Op.build 29 #[(0, Operand.tmp 41), (1, Operand.tmp 46), (2, Operand.tmp 51), (3, Operand.tmp 56)], type := 29, pos := "ref.go:216", after := #[{ on := 4, ground := Ground.data }, { on := 9, ground := Ground.data }, { on := 14, ground := Ground.data }, { on := 19, ground := Ground.data }], guard := none }) (v := ?_) rfl (by kernel_rfl) (by kernel_rfl) (by kernel_rfl) (fun _ _ _ h => h) (Or.inl ⟨by rfl, ?_⟩) hHeld ?_
                        rotate_left 1
                        · intro W hSw
                          (try dsimp only at hSw)
                          go_simp
                          try with_reducible rfl
                        try simp only [Act.put, List.setIfInBounds_toArray, List.set_cons_zero, List.set_cons_succ]
                        refine wpAnyH_take (i := 21) (oi := { dst := some 58, op := Op.fieldAddr 31 (Operand.tmp 6) 4, type := 0, pos := "ref.go:216", after := #[{ on := 0, ground := Ground.phase }, { on := 1, ground := Ground.phase }, { on := 2, ground := Ground.phase }, { on := 3, ground := Ground.phase }, { on := 4, ground := Ground.phase }, { on := 5, ground := Ground.phase }, { on := 6, ground := Ground.phase }, { on := 7, ground := Ground.phase }, { on := 8, ground := Ground.phase }, { on := 9, ground := Ground.phase }, { on := 10, ground := Ground.phase }, { on := 11, ground := Ground.phase }, { on := 12, ground := Ground.phase }, { on := 13, ground := Ground.phase }, { on := 14, ground := Ground.phase }, { on := 15, ground := Ground.phase }, { on := 16, ground := Ground.phase }, { on := 17, ground := Ground.phase }, { on := 18, ground := Ground.phase }, { on := 19, ground := Ground.phase }, { on := 20, ground := Ground.phase }], guard := none }) (v := ?_) rfl (by kernel_rfl) (by kernel_rfl) (by kernel_rfl) (fun _ _ _ h => h) (Or.inl ⟨by rfl, ?_⟩) hHeld ?_
                        rotate_left 1
                        · intro W hSw
                          (try dsimp only at hSw)
                          go_simp
                          try with_reducible rfl
                        try simp only [Act.put, List.setIfInBounds_toArray, List.set_cons_zero, List.set_cons_succ]
                        refine wpAnyH_ready (rs := [22]) (by kernel_rfl) (by simp) ?_
                        refine AllReadyH.cons (o := { dst := none, op := Op.store 29 (Operand.tmp 58) (Operand.tmp 57), type := 0, pos := "ref.go:216", after := #[{ on := 21, ground := Ground.data }, { on := 20, ground := Ground.data }, { on := 19, ground := Ground.chain }, { on := 0, ground := Ground.phase }, { on := 1, ground := Ground.phase }, { on := 2, ground := Ground.phase }, { on := 3, ground := Ground.phase }, { on := 4, ground := Ground.phase }, { on := 5, ground := Ground.phase }, { on := 6, ground := Ground.phase }, { on := 7, ground := Ground.phase }, { on := 8, ground := Ground.phase }, { on := 9, ground := Ground.phase }, { on := 10, ground := Ground.phase }, { on := 11, ground := Ground.phase }, { on := 12, ground := Ground.phase }, { on := 13, ground := Ground.phase }, { on := 14, ground := Ground.phase }, { on := 15, ground := Ground.phase }, { on := 16, ground := Ground.phase }, { on := 17, ground := Ground.phase }, { on := 18, ground := Ground.phase }, { on := 19, ground := Ground.phase }, { on := 20, ground := Ground.phase }], guard := none }) rfl (fun K7 hK7 => ?_) ?_
                        · refine wp_store_mid 29 _ _ rfl w6.heap.size 4 #[.int .i64 (sm f4.num), .int .i64 (sm f5.num), .int .i64 (sm f6.num), .int .i64 (sm f7.num)] rfl rfl (there4 HX7d.out) sizePool (by simp [Value.oneCell']) ?_
                          refine hK7.out _ _ (⟨(set8o_cell S50.1 hbne 4 _), (set8o_cell S50.2.1 hbne 4 _), (set8o_cell S50.2.2.1 hbne 4 _), (set8o_cell S50.2.2.2 hbne 4 _)⟩) (fun hHeld => ?_)
                          clear hK7 K7
                          try simp only [Act.put, List.setIfInBounds_toArray, List.set_cons_zero, List.set_cons_succ]
                          refine wpAnyH_done (by kernel_rfl) ?_ _
                          clear hHeld
                          have HX8 := Lib.hid (show IBx (W7.drew.setCells w6.heap.size 4 #[.int .i64 (sm f4.num), .int .i64 (sm f5.num), .int .i64 (sm f6.num), .int .i64 (sm f7.num)].toList) w6.heap.size ⟨sm f0.num, sm f1.num, sm f2.num, f3.num, ⟨sm f4.num, sm f5.num, sm f6.num, sm f7.num⟩⟩ from putPool HX7d.out _ _ _ _)
                          have HB8 := Lib.hid (show Below w.heap.size w (W7.drew.setCells w6.heap.size 4 #[.int .i64 (sm f4.num), .int .i64 (sm f5.num), .int .i64 (sm f6.num), .int .i64 (sm f7.num)].toList) from HBw6.out.trans ((show Below w6.heap.size w6 _ from Below.setCells (show Below w6.heap.size w6 W7.drew from below_drew HB7.out) (Nat.le_refl _) 4 _).mono HBw6.out.size))
                          have HI8 := Lib.hid (show IBx (W7.drew.setCells w6.heap.size 4 #[.int .i64 (sm f4.num), .int .i64 (sm f5.num), .int .i64 (sm f6.num), .int .i64 (sm f7.num)].toList) w.heap.size incZ from HI6.out.keep (show Below w6.heap.size w6 _ from Below.setCells (show Below w6.heap.size w6 W7.drew from below_drew HB7.out) (Nat.le_refl _) 4 _))
                          clear S50 HX7d HX7 HB7
                          generalize W7.drew.setCells w6.heap.size 4 #[.int .i64 (sm f4.num), .int .i64 (sm f5.num), .int .i64 (sm f6.num), .int .i64 (sm f7.num)].toList = W8 at HX8 HB8 HI8 ⊢
                          obtain ⟨M, hM⟩ : ∃ M, w6.heap.size = M := ⟨_, rfl⟩
                          rw [hM] at HX8 ⊢
                          clear hM
                          obtain ⟨c0, c1, c2, c3, c4, c5, c6, c7⟩ := HX8.out.cells
                          simp only at c0 c1 c2 c3 c4 c5 c6 c7
                          cases q with
                          | false =>
                            go_wp2_with (first
                              | (go_at_call 21; refine (HIn.out _).mono ?_; rintro e w9 ⟨rfl, hb⟩; have HB9 := Lib.hid (HB8.out.trans (hb.mono HB8.out.size)); have HI9 := Lib.hid (HI8.out.keep hb); clear hb c0 c1 c2 c3 c4 c5 c6 c7)
                              | (refine wpList_store_mid rfl 31 _ _ rfl w.heap.size 0 (IncV.cells incZ).toArray rfl rfl HI9.out.there sizeInc (all_oneCell_toArray (IncV.one _)) ?_))
                            refine bodyPost_ret (ret_cell_tmp rfl rfl (HI9.out.put incZ).range Tryz.underlying31 rfl sizeInc) rfl ?_
                            rw [HDr.out]
                            exact ⟨rfl, Below.setCells HB9.out (b := w.heap.size) (Nat.le_refl _) 0 (IncV.cells incZ)⟩
                          | true =>
                            go_wp2_with (first
                              | (go_at_call 21; refine (HIn.out _).mono ?_; rintro e w9 ⟨rfl, hb⟩; have HB9 := Lib.hid (HB8.out.trans (hb.mono HB8.out.size)); have HI9 := Lib.hid (HI8.out.keep hb); clear c0 c1 c2 c3 c4 c5 c6 c7; obtain ⟨c0, c1, c2, c3, c4, c5, c6, c7⟩ := (HX8.out.keep hb).cells; simp only at c0 c1 c2 c3 c4 c5 c6 c7; clear hb)
                              | (refine wpList_store_mid rfl 31 _ _ rfl w.heap.size 0 (IncV.cells ⟨sm f0.num, sm f1.num, sm f2.num, f3.num, ⟨sm f4.num, sm f5.num, sm f6.num, sm f7.num⟩⟩).toArray rfl rfl HI9.out.there sizeInc (all_oneCell_toArray (IncV.one _)) ?_; clear c0 c1 c2 c3 c4 c5 c6 c7))
                            refine bodyPost_ret (ret_cell_tmp rfl rfl (HI9.out.put ⟨sm f0.num, sm f1.num, sm f2.num, f3.num, ⟨sm f4.num, sm f5.num, sm f6.num, sm f7.num⟩⟩).range Tryz.underlying31 rfl sizeInc) rfl ?_
                            rw [HDr.out, if_pos trivial, ← HEq.out (by first | rfl | trivial)]
                            exact ⟨rfl, Below.setCells HB9.out (b := w.heap.size) (Nat.le_refl _) 0 (IncV.cells ⟨sm f0.num, sm f1.num, sm f2.num, f3.num, ⟨sm f4.num, sm f5.num, sm f6.num, sm f7.num⟩⟩)⟩
                        exact AllReadyH.nil
                      exact AllReadyH.nil
                    exact AllReadyH.nil
                  exact AllReadyH.nil
                exact AllReadyH.nil
              exact AllReadyH.nil
            exact AllReadyH.nil
          exact AllReadyH.nil
        exact AllReadyH.nil
      exact AllReadyH.nil
      --R4E
end Go.Proofs.YtoeklnmmnmmjeaaGreat.crush
