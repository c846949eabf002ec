/- The document's Choose. -/
import Derived.Test.YtngmcolbpdinmaaRows
import Derived.Test.YtngmcolbpdinmaaCrushChoose
namespace Go.Proofs.Ytngmcolbpdinmaa.crush
open Go.RowKit
open Go.Proofs.Ytngmcolbpdinmaa.kit Go.Proofs.Ytngmcolbpdinmaa.own Go.Proofs.Ytngmcolbpdinmaa.heldin
set_option linter.unusedVariables false

set_option maxHeartbeats 4000000 in
set_option maxRecDepth 100000 in
theorem weight_any (p q : Int) (w : World) : Calls Try.prog 45 #[.agg #[.int .i64 p, .int .i64 q]] w fun e w' => e = .returned (.int .i64 (min q 1048576)) ∧ Below w.heap.size w w' := by
  have hX := alloc_at w (ibox (p, q))
  have HB := Lib.hid (below_new w (ibox (p, q)))
  simp only [ibox] at HB
  go_enter Try.func45, Try.ntmps45
  go_wp2
  go_ret
  exact ⟨rfl, HB.out⟩
theorem rCost_bel (x : Nat) (id r : Int) (hx : x < 4294967296) (w : World) :
    Calls Try.prog 46 #[.int .u32 x, .int .i64 id, .int .i64 r] w fun e w' => e = .returned (.int .i64 (costN x id r)) ∧ Below w.heap.size w w' :=
  (rCost_any x id r hx w).mono (fun e w' ⟨h1, h2⟩ => ⟨h1, by rw [h2]; exact below_new _ _⟩)

theorem weight_m (p q m : Int) (hm : min q 1048576 = m) (w : World) : Calls Try.prog 45 #[.agg #[.int .i64 p, .int .i64 q]] w fun e w' => e = .returned (.int .i64 m) ∧ Below w.heap.size w w' := by
  rw [← hm]; exact weight_any p q w

/-- The place as the document keeps it: -1 for none. -/
def bestI (ks : List Ky) (k : Nat) : Int := match best ks k with
  | none => -1
  | some b => (b : Int)

theorem bestI_first (ks : List Ky) (k wq : Nat) (h : wO ks k = wq) (h0 : 0 < wq) (hb : best ks k = none) : bestI ks (k + 1) = (k : Int) := by
  have hz : wO ks k ≠ 0 := by omega
  unfold bestI
  simp only [best, hz, if_false, hb]
theorem bestI_then (ks : List Ky) (k j wq P Q : Nat) (h : wO ks k = wq) (h0 : 0 < wq) (hb : best ks k = some j) (hP : cO ks k * wO ks j = P) (hQ : cO ks j * wq = Q) : bestI ks (k + 1) = if P < Q then (k : Int) else (j : Int) := by
  have hz : wO ks k ≠ 0 := by omega
  have e : best ks (k + 1) = if cO ks k * wO ks j < cO ks j * wO ks k then some k else some j := by simp only [best, hz, if_false, hb]
  unfold bestI
  rw [e, hP, h, hQ]
  by_cases g : P < Q
  · rw [if_pos g, if_pos g]
  · rw [if_neg g, if_neg g]

set_option maxHeartbeats 8000000 in
set_option maxRecDepth 100000 in
theorem rChoose_any (v : Value) (xs : List It) (x : Nat) (r : Int) (hx : x < 4294967296) (hlx : xs.length ≤ 1000000000) (w : World) (h : Sl wc 2 w v xs) :
    Calls Try.prog 35 #[v, .int .u32 x, .int .i64 r] w fun e w' => e = .returned (chosen (keys x r xs)) ∧ Below w.heap.size w w' := by
  obtain ⟨hl, a, cap, rfl, -, -⟩ := id h
  have HS := Lib.hid h; have HXl := Lib.hid hx
  obtain ⟨L, hL⟩ : ∃ L, xs.length = L := ⟨_, rfl⟩
  have HL := Lib.hid hL
  rw [hL] at HS hl hlx ⊢
  obtain ⟨ks, hks⟩ : ∃ ks, keys x r xs = ks := ⟨_, rfl⟩
  have HKs := Lib.hid hks
  rw [hks]
  clear h hx hL hks
  have mixed : Try.prog.follows .mixedOrders = true := by kernel_rfl
  go_enter Try.func35, Try.ntmps35
  go_wp2
  go_loopw [9, 8] (fun vi vb wr => ∃ k : Nat, k ≤ L ∧ vi = .int .i64 k ∧ vb = .int .i64 (bestI ks k) ∧ Below w.heap.size w wr) (fun i _ _ => L - (intOf i).toNat)
  case atStart => exact ⟨0, by omega, rfl, rfl, Below.refl _ _⟩
  case round =>
    obtain ⟨k, hk, rfl, rfl, hbw⟩ := hrel
    have HB := Lib.hid hbw
    have HSr := Lib.hid (HS.out.keep hbw)
    clear hbw
    by_cases hlt : k < L
    · have hlt' : (k : Int) < L := by omega
      have hi0 : k < xs.length := by rw [HL.out]; exact hlt
      obtain ⟨_, a', cap', he, -, hcell⟩ := HSr.out
      have he' : a = a' ∧ cap = cap' := by cases he; exact ⟨rfl, rfl⟩
      obtain ⟨rfl, rfl⟩ := he'
      clear he
      obtain ⟨b, off, rfl, hbl, hcell⟩ := hcell (by omega)
      have HC : Hid (∀ u, Below wr.heap.size wr u → ∀ j (hj : j < xs.length), u.cell? ⟨b, off + j * 2, none⟩ = some (.int .i64 xs[j].1) ∧ u.cell? ⟨b, off + j * 2 + 1, none⟩ = some (.int .i64 xs[j].2)) := Lib.hid (fun u hu j hj => wcells_at (range_keep (hcell j hj) hbl hu))
      have hk1 := keys_at x r xs k hi0
      have hsk := best_skip x r xs k hi0
      rw [HKs.out] at hk1 hsk
      obtain ⟨d1, d2⟩ := HC.out wr (Below.refl _ _) k hi0
      obtain ⟨y, hy⟩ : ∃ y, xs[k] = y := ⟨_, rfl⟩
      have HYk := Lib.hid hy
      rw [hy] at d1 d2 hk1 hsk
      obtain ⟨p, q⟩ := y
      simp only at d1 d2 hk1 hsk
      have HK1 := Lib.hid hk1; have HSk := Lib.hid hsk
      clear hcell hbl hy hk1 hsk
      by_cases hq : q < 1
      · obtain ⟨m, hm⟩ : ∃ m, min q 1048576 = m := ⟨_, rfl⟩
        have hm1 : m < 1 := by omega
        have HM := Lib.hid hm
        have HN : Hid (bestI ks (k + 1) = bestI ks k) := Lib.hid (by unfold bestI; rw [HSk.out ((wtN_zero q).2 hq)])
        clear hq hm
        go_wp2_with (go_at_call 45; refine (weight_m _ _ m HM.out _).mono ?_; rintro e w5 ⟨rfl, hb5⟩; have HB5 := Lib.hid (HB.out.trans (hb5.mono HB.out.size)); clear hb5 d1 d2)
        go_roundw
        case rel => exact ⟨k + 1, by omega, by go_num, by rw [HN.out], HB5.out⟩
        case measure => simp [intOf]; omega
      · have hm : min q 1048576 = (wtN q : Int) := by unfold wtN; omega
        have hpos : 0 < wtN q := (wtN_pos q).2 (by omega)
        have hle := wtN_le q
        generalize wtN q = wq at hm hpos hle HK1 HSk
        have HM := Lib.hid hm
        have hm1 : ¬ (wq : Int) < 1 := by omega
        have HW := Lib.hid (And.intro hpos hle)
        clear hq hm hpos hle
        go_wp2_with (go_at_call 45; refine (weight_m _ _ (wq : Int) HM.out _).mono ?_; rintro e w5 ⟨rfl, hb5⟩; have HB5 := Lib.hid hb5; clear hb5 d1 d2)
        have HBd := Lib.hid (below_drew HB5.out)
        cases hbst : best ks k with
        | none =>
          have HBn := Lib.hid hbst
          rw [show bestI ks k = -1 by unfold bestI; rw [hbst]]
          clear hbst hm1
          --RA
          refine wp_region_held_drew (S := fun _ => True) (by kernel_rfl) (trivial) (fun hHeld => ?_)
          refine wpAnyH_take (i := 0) (oi := { dst := some 22, op := Op.move (Operand.tmp 8), type := 3, pos := "ref.go:26", after := #[], guard := none }) (v := ?_) rfl (by kernel_rfl) (by kernel_rfl) (by kernel_rfl) (fun _ _ _ h => h) (Or.inl ⟨by rfl, ?_⟩) hHeld ?_
          rotate_left 1
          · intro W hSw
            (try dsimp only at hSw)
            go_simp
            try with_reducible rfl
          try simp only [Act.put, List.setIfInBounds_toArray, List.set_cons_zero, List.set_cons_succ]
          refine wpAnyH_take (i := 1) (oi := { dst := some 23, op := Op.binOp BinOp.lss 3 (Operand.tmp 22) (Operand.const (Value.int IntKind.i64 0)) 3, type := 4, pos := "ref.go:26", after := #[{ on := 0, ground := Ground.data }], guard := none }) (v := ?_) rfl (by kernel_rfl) (by kernel_rfl) (by kernel_rfl) (fun _ _ _ h => h) (Or.inl ⟨by rfl, ?_⟩) hHeld ?_
          rotate_left 1
          · intro W hSw
            (try dsimp only at hSw)
            go_simp
            try with_reducible rfl
          try simp only [Act.put, List.setIfInBounds_toArray, List.set_cons_zero, List.set_cons_succ]
          refine wpAnyH_take (i := 2) (oi := { dst := some 24, op := Op.move (Operand.tmp 23), type := 4, pos := "ref.go:26", after := #[{ on := 1, ground := Ground.data }], guard := none }) (v := ?_) rfl (by kernel_rfl) (by kernel_rfl) (by kernel_rfl) (fun _ _ _ h => h) (Or.inl ⟨by rfl, ?_⟩) hHeld ?_
          rotate_left 1
          · intro W hSw
            (try dsimp only at hSw)
            go_simp
            try with_reducible rfl
          try simp only [Act.put, List.setIfInBounds_toArray, List.set_cons_zero, List.set_cons_succ]
          refine wpAnyH_take (i := 3) (oi := { dst := some 25, op := Op.move (Operand.tmp 1), type := 24, pos := "ref.go:26", after := #[{ on := 2, ground := Ground.guard }], guard := some (2, false) }) (v := undef) rfl (by kernel_rfl) (by kernel_rfl) (by kernel_rfl) (fun _ _ _ h => h) (Or.inr ⟨by rfl, rfl⟩) hHeld ?_
          try simp only [Act.put, List.setIfInBounds_toArray, List.set_cons_zero, List.set_cons_succ]
          refine wpAnyH_take (i := 4) (oi := { dst := some 26, op := Op.move (Operand.tmp 0), type := 33, pos := "ref.go:26", after := #[{ on := 2, ground := Ground.guard }], guard := some (2, false) }) (v := undef) rfl (by kernel_rfl) (by kernel_rfl) (by kernel_rfl) (fun _ _ _ h => h) (Or.inr ⟨by rfl, rfl⟩) hHeld ?_
          try simp only [Act.put, List.setIfInBounds_toArray, List.set_cons_zero, List.set_cons_succ]
          refine wpAnyH_take (i := 5) (oi := { dst := some 27, op := Op.move (Operand.tmp 9), type := 3, pos := "ref.go:26", after := #[{ on := 2, ground := Ground.guard }], guard := some (2, false) }) (v := undef) rfl (by kernel_rfl) (by kernel_rfl) (by kernel_rfl) (fun _ _ _ h => h) (Or.inr ⟨by rfl, rfl⟩) hHeld ?_
          try simp only [Act.put, List.setIfInBounds_toArray, List.set_cons_zero, List.set_cons_succ]
          refine wpAnyH_take (i := 6) (oi := { dst := some 28, op := Op.indexAddr 33 (Operand.tmp 26) (Operand.tmp 27), type := 0, pos := "ref.go:26", after := #[{ on := 4, ground := Ground.data }, { on := 5, ground := Ground.data }, { on := 2, ground := Ground.guard }], guard := some (2, false) }) (v := undef) rfl (by kernel_rfl) (by kernel_rfl) (by kernel_rfl) (fun _ _ _ h => h) (Or.inr ⟨by rfl, rfl⟩) hHeld ?_
          try simp only [Act.put, List.setIfInBounds_toArray, List.set_cons_zero, List.set_cons_succ]
          refine wpAnyH_take (i := 7) (oi := { dst := some 29, op := Op.fieldAddr 58 (Operand.tmp 28) 0, type := 0, pos := "ref.go:26", after := #[{ on := 6, ground := Ground.data }, { on := 2, ground := Ground.guard }], guard := some (2, false) }) (v := undef) rfl (by kernel_rfl) (by kernel_rfl) (by kernel_rfl) (fun _ _ _ h => h) (Or.inr ⟨by rfl, rfl⟩) hHeld ?_
          try simp only [Act.put, List.setIfInBounds_toArray, List.set_cons_zero, List.set_cons_succ]
          refine wpAnyH_take (i := 8) (oi := { dst := some 30, op := Op.load 3 (Operand.tmp 29), type := 3, pos := "ref.go:26", after := #[{ on := 7, ground := Ground.data }, { on := 2, ground := Ground.guard }], guard := some (2, false) }) (v := undef) rfl (by kernel_rfl) (by kernel_rfl) (by kernel_rfl) (fun _ _ _ h => h) (Or.inr ⟨by rfl, rfl⟩) hHeld ?_
          try simp only [Act.put, List.setIfInBounds_toArray, List.set_cons_zero, List.set_cons_succ]
          refine wpAnyH_take (i := 9) (oi := { dst := some 31, op := Op.move (Operand.tmp 2), type := 3, pos := "ref.go:26", after := #[{ on := 2, ground := Ground.guard }], guard := some (2, false) }) (v := undef) rfl (by kernel_rfl) (by kernel_rfl) (by kernel_rfl) (fun _ _ _ h => h) (Or.inr ⟨by rfl, rfl⟩) hHeld ?_
          try simp only [Act.put, List.setIfInBounds_toArray, List.set_cons_zero, List.set_cons_succ]
          refine wpAnyH_take (i := 10) (oi := { dst := some 32, op := Op.call { callee := Callee.value (Operand.func 46), args := #[Operand.tmp 25, Operand.tmp 30, Operand.tmp 31], argTypes := #[24, 3, 3] }, type := 2, pos := "ref.go:26", after := #[{ on := 3, ground := Ground.data }, { on := 8, ground := Ground.data }, { on := 9, ground := Ground.data }, { on := 2, ground := Ground.chain }, { on := 2, ground := Ground.guard }], guard := some (2, false) }) (v := undef) rfl (by kernel_rfl) (by kernel_rfl) (by kernel_rfl) (fun _ _ _ h => h) (Or.inr ⟨by rfl, rfl⟩) hHeld ?_
          try simp only [Act.put, List.setIfInBounds_toArray, List.set_cons_zero, List.set_cons_succ]
          refine wpAnyH_take (i := 11) (oi := { dst := some 33, op := Op.move (Operand.tmp 0), type := 33, pos := "ref.go:26", after := #[{ on := 2, ground := Ground.guard }], guard := some (2, false) }) (v := undef) rfl (by kernel_rfl) (by kernel_rfl) (by kernel_rfl) (fun _ _ _ h => h) (Or.inr ⟨by rfl, rfl⟩) hHeld ?_
          try simp only [Act.put, List.setIfInBounds_toArray, List.set_cons_zero, List.set_cons_succ]
          refine wpAnyH_take (i := 12) (oi := { dst := some 34, op := Op.move (Operand.tmp 8), type := 3, pos := "ref.go:26", after := #[{ on := 2, ground := Ground.guard }], guard := some (2, false) }) (v := undef) rfl (by kernel_rfl) (by kernel_rfl) (by kernel_rfl) (fun _ _ _ h => h) (Or.inr ⟨by rfl, rfl⟩) hHeld ?_
          try simp only [Act.put, List.setIfInBounds_toArray, List.set_cons_zero, List.set_cons_succ]
          refine wpAnyH_take (i := 13) (oi := { dst := some 35, op := Op.indexAddr 33 (Operand.tmp 33) (Operand.tmp 34), type := 0, pos := "ref.go:26", after := #[{ on := 11, ground := Ground.data }, { on := 12, ground := Ground.data }, { on := 2, ground := Ground.guard }], guard := some (2, false) }) (v := undef) rfl (by kernel_rfl) (by kernel_rfl) (by kernel_rfl) (fun _ _ _ h => h) (Or.inr ⟨by rfl, rfl⟩) hHeld ?_
          try simp only [Act.put, List.setIfInBounds_toArray, List.set_cons_zero, List.set_cons_succ]
          refine wpAnyH_take (i := 14) (oi := { dst := some 36, op := Op.load 58 (Operand.tmp 35), type := 58, pos := "ref.go:26", after := #[{ on := 13, ground := Ground.data }, { on := 2, ground := Ground.guard }], guard := some (2, false) }) (v := undef) rfl (by kernel_rfl) (by kernel_rfl) (by kernel_rfl) (fun _ _ _ h => h) (Or.inr ⟨by rfl, rfl⟩) hHeld ?_
          try simp only [Act.put, List.setIfInBounds_toArray, List.set_cons_zero, List.set_cons_succ]
          refine wpAnyH_take (i := 15) (oi := { dst := some 37, op := Op.call { callee := Callee.value (Operand.func 45), args := #[Operand.tmp 36], argTypes := #[58] }, type := 2, pos := "ref.go:26", after := #[{ on := 14, ground := Ground.data }, { on := 10, ground := Ground.chain }, { on := 2, ground := Ground.guard }], guard := some (2, false) }) (v := undef) rfl (by kernel_rfl) (by kernel_rfl) (by kernel_rfl) (fun _ _ _ h => h) (Or.inr ⟨by rfl, rfl⟩) hHeld ?_
          try simp only [Act.put, List.setIfInBounds_toArray, List.set_cons_zero, List.set_cons_succ]
          refine wpAnyH_take (i := 16) (oi := { dst := some 38, op := Op.binOp BinOp.mul 2 (Operand.tmp 32) (Operand.tmp 37) 2, type := 2, pos := "ref.go:26", after := #[{ on := 10, ground := Ground.data }, { on := 15, ground := Ground.data }, { on := 2, ground := Ground.guard }], guard := some (2, false) }) (v := undef) rfl (by kernel_rfl) (by kernel_rfl) (by kernel_rfl) (fun _ _ _ h => h) (Or.inr ⟨by rfl, rfl⟩) hHeld ?_
          try simp only [Act.put, List.setIfInBounds_toArray, List.set_cons_zero, List.set_cons_succ]
          refine wpAnyH_take (i := 17) (oi := { dst := some 39, op := Op.move (Operand.tmp 1), type := 24, pos := "ref.go:26", after := #[{ on := 2, ground := Ground.guard }], guard := some (2, false) }) (v := undef) rfl (by kernel_rfl) (by kernel_rfl) (by kernel_rfl) (fun _ _ _ h => h) (Or.inr ⟨by rfl, rfl⟩) hHeld ?_
          try simp only [Act.put, List.setIfInBounds_toArray, List.set_cons_zero, List.set_cons_succ]
          refine wpAnyH_take (i := 18) (oi := { dst := some 40, op := Op.move (Operand.tmp 0), type := 33, pos := "ref.go:26", after := #[{ on := 2, ground := Ground.guard }], guard := some (2, false) }) (v := undef) rfl (by kernel_rfl) (by kernel_rfl) (by kernel_rfl) (fun _ _ _ h => h) (Or.inr ⟨by rfl, rfl⟩) hHeld ?_
          try simp only [Act.put, List.setIfInBounds_toArray, List.set_cons_zero, List.set_cons_succ]
          refine wpAnyH_take (i := 19) (oi := { dst := some 41, op := Op.move (Operand.tmp 8), type := 3, pos := "ref.go:26", after := #[{ on := 2, ground := Ground.guard }], guard := some (2, false) }) (v := undef) rfl (by kernel_rfl) (by kernel_rfl) (by kernel_rfl) (fun _ _ _ h => h) (Or.inr ⟨by rfl, rfl⟩) hHeld ?_
          try simp only [Act.put, List.setIfInBounds_toArray, List.set_cons_zero, List.set_cons_succ]
          refine wpAnyH_take (i := 20) (oi := { dst := some 42, op := Op.indexAddr 33 (Operand.tmp 40) (Operand.tmp 41), type := 0, pos := "ref.go:26", after := #[{ on := 18, ground := Ground.data }, { on := 19, ground := Ground.data }, { on := 2, ground := Ground.guard }], guard := some (2, false) }) (v := undef) rfl (by kernel_rfl) (by kernel_rfl) (by kernel_rfl) (fun _ _ _ h => h) (Or.inr ⟨by rfl, rfl⟩) hHeld ?_
          try simp only [Act.put, List.setIfInBounds_toArray, List.set_cons_zero, List.set_cons_succ]
          refine wpAnyH_take (i := 21) (oi := { dst := some 43, op := Op.fieldAddr 58 (Operand.tmp 42) 0, type := 0, pos := "ref.go:26", after := #[{ on := 20, ground := Ground.data }, { on := 2, ground := Ground.guard }], guard := some (2, false) }) (v := undef) rfl (by kernel_rfl) (by kernel_rfl) (by kernel_rfl) (fun _ _ _ h => h) (Or.inr ⟨by rfl, rfl⟩) hHeld ?_
          try simp only [Act.put, List.setIfInBounds_toArray, List.set_cons_zero, List.set_cons_succ]
          refine wpAnyH_take (i := 22) (oi := { dst := some 44, op := Op.load 3 (Operand.tmp 43), type := 3, pos := "ref.go:26", after := #[{ on := 21, ground := Ground.data }, { on := 2, ground := Ground.guard }], guard := some (2, false) }) (v := undef) rfl (by kernel_rfl) (by kernel_rfl) (by kernel_rfl) (fun _ _ _ h => h) (Or.inr ⟨by rfl, rfl⟩) hHeld ?_
          try simp only [Act.put, List.setIfInBounds_toArray, List.set_cons_zero, List.set_cons_succ]
          refine wpAnyH_take (i := 23) (oi := { dst := some 45, op := Op.move (Operand.tmp 2), type := 3, pos := "ref.go:26", after := #[{ on := 2, ground := Ground.guard }], guard := some (2, false) }) (v := undef) rfl (by kernel_rfl) (by kernel_rfl) (by kernel_rfl) (fun _ _ _ h => h) (Or.inr ⟨by rfl, rfl⟩) hHeld ?_
          try simp only [Act.put, List.setIfInBounds_toArray, List.set_cons_zero, List.set_cons_succ]
          refine wpAnyH_take (i := 24) (oi := { dst := some 46, op := Op.call { callee := Callee.value (Operand.func 46), args := #[Operand.tmp 39, Operand.tmp 44, Operand.tmp 45], argTypes := #[24, 3, 3] }, type := 2, pos := "ref.go:26", after := #[{ on := 17, ground := Ground.data }, { on := 22, ground := Ground.data }, { on := 23, ground := Ground.data }, { on := 15, ground := Ground.chain }, { on := 2, ground := Ground.guard }], guard := some (2, false) }) (v := undef) rfl (by kernel_rfl) (by kernel_rfl) (by kernel_rfl) (fun _ _ _ h => h) (Or.inr ⟨by rfl, rfl⟩) hHeld ?_
          try simp only [Act.put, List.setIfInBounds_toArray, List.set_cons_zero, List.set_cons_succ]
          refine wpAnyH_take (i := 25) (oi := { dst := some 47, op := Op.move (Operand.tmp 0), type := 33, pos := "ref.go:26", after := #[{ on := 2, ground := Ground.guard }], guard := some (2, false) }) (v := undef) rfl (by kernel_rfl) (by kernel_rfl) (by kernel_rfl) (fun _ _ _ h => h) (Or.inr ⟨by rfl, rfl⟩) hHeld ?_
          try simp only [Act.put, List.setIfInBounds_toArray, List.set_cons_zero, List.set_cons_succ]
          refine wpAnyH_take (i := 26) (oi := { dst := some 48, op := Op.move (Operand.tmp 9), type := 3, pos := "ref.go:26", after := #[{ on := 2, ground := Ground.guard }], guard := some (2, false) }) (v := undef) rfl (by kernel_rfl) (by kernel_rfl) (by kernel_rfl) (fun _ _ _ h => h) (Or.inr ⟨by rfl, rfl⟩) hHeld ?_
          try simp only [Act.put, List.setIfInBounds_toArray, List.set_cons_zero, List.set_cons_succ]
          refine wpAnyH_take (i := 27) (oi := { dst := some 49, op := Op.indexAddr 33 (Operand.tmp 47) (Operand.tmp 48), type := 0, pos := "ref.go:26", after := #[{ on := 25, ground := Ground.data }, { on := 26, ground := Ground.data }, { on := 2, ground := Ground.guard }], guard := some (2, false) }) (v := undef) rfl (by kernel_rfl) (by kernel_rfl) (by kernel_rfl) (fun _ _ _ h => h) (Or.inr ⟨by rfl, rfl⟩) hHeld ?_
          try simp only [Act.put, List.setIfInBounds_toArray, List.set_cons_zero, List.set_cons_succ]
          refine wpAnyH_take (i := 28) (oi := { dst := some 50, op := Op.load 58 (Operand.tmp 49), type := 58, pos := "ref.go:26", after := #[{ on := 27, ground := Ground.data }, { on := 2, ground := Ground.guard }], guard := some (2, false) }) (v := undef) rfl (by kernel_rfl) (by kernel_rfl) (by kernel_rfl) (fun _ _ _ h => h) (Or.inr ⟨by rfl, rfl⟩) hHeld ?_
          try simp only [Act.put, List.setIfInBounds_toArray, List.set_cons_zero, List.set_cons_succ]
          refine wpAnyH_take (i := 29) (oi := { dst := some 51, op := Op.call { callee := Callee.value (Operand.func 45), args := #[Operand.tmp 50], argTypes := #[58] }, type := 2, pos := "ref.go:26", after := #[{ on := 28, ground := Ground.data }, { on := 24, ground := Ground.chain }, { on := 2, ground := Ground.guard }], guard := some (2, false) }) (v := undef) rfl (by kernel_rfl) (by kernel_rfl) (by kernel_rfl) (fun _ _ _ h => h) (Or.inr ⟨by rfl, rfl⟩) hHeld ?_
          try simp only [Act.put, List.setIfInBounds_toArray, List.set_cons_zero, List.set_cons_succ]
          refine wpAnyH_take (i := 30) (oi := { dst := some 52, op := Op.binOp BinOp.mul 2 (Operand.tmp 46) (Operand.tmp 51) 2, type := 2, pos := "ref.go:26", after := #[{ on := 24, ground := Ground.data }, { on := 29, ground := Ground.data }, { on := 2, ground := Ground.guard }], guard := some (2, false) }) (v := undef) rfl (by kernel_rfl) (by kernel_rfl) (by kernel_rfl) (fun _ _ _ h => h) (Or.inr ⟨by rfl, rfl⟩) hHeld ?_
          try simp only [Act.put, List.setIfInBounds_toArray, List.set_cons_zero, List.set_cons_succ]
          refine wpAnyH_take (i := 31) (oi := { dst := some 53, op := Op.binOp BinOp.lss 2 (Operand.tmp 38) (Operand.tmp 52) 2, type := 4, pos := "ref.go:26", after := #[{ on := 16, ground := Ground.data }, { on := 30, ground := Ground.data }, { on := 2, ground := Ground.guard }], guard := some (2, false) }) (v := undef) rfl (by kernel_rfl) (by kernel_rfl) (by kernel_rfl) (fun _ _ _ h => h) (Or.inr ⟨by rfl, rfl⟩) hHeld ?_
          try simp only [Act.put, List.setIfInBounds_toArray, List.set_cons_zero, List.set_cons_succ]
          refine wpAnyH_take (i := 32) (oi := { dst := some 54, op := Op.pick (Operand.tmp 24) (Operand.const (Value.bool true)) (Operand.tmp 53), type := 4, pos := "ref.go:26", after := #[{ on := 2, ground := Ground.data }, { on := 31, ground := Ground.data }], guard := none }) (v := ?_) rfl (by kernel_rfl) (by kernel_rfl) (by kernel_rfl) (fun _ _ _ h => h) (Or.inl ⟨by rfl, ?_⟩) hHeld ?_
          rotate_left 1
          · intro W hSw
            (try dsimp only at hSw)
            go_simp
            try with_reducible rfl
          try simp only [Act.put, List.setIfInBounds_toArray, List.set_cons_zero, List.set_cons_succ]
          refine wpAnyH_done (by kernel_rfl) ?_ _
          go_wp2
          go_roundw
          case rel => exact ⟨k + 1, by omega, by go_num, by rw [bestI_first ks k wq HK1.out.2 HW.out.1 HBn.out], HB.out.trans (HBd.out.mono HB.out.size)⟩
          case measure => simp [intOf]; omega
          --RAE
        | some j =>
          have HBn := Lib.hid hbst
          have hj := best_lt _ _ _ hbst
          rw [show bestI ks k = (j : Int) by unfold bestI; rw [hbst]]
          have hj0 : j < xs.length := by omega
          have hk2 := keys_at x r xs j hj0
          rw [HKs.out] at hk2
          obtain ⟨d1, d2⟩ := HC.out _ HBd.out k hi0
          obtain ⟨d3, d4⟩ := HC.out _ HBd.out j hj0
          obtain ⟨z, hz⟩ : ∃ z, xs[j] = z := ⟨_, rfl⟩
          have HZ := Lib.hid hz
          rw [HYk.out] at d1 d2
          rw [hz] at d3 d4 hk2
          obtain ⟨s, t⟩ := z
          simp only at d1 d2 d3 d4 hk2
          have ht : 0 < wtN t := by
            have := ((best_spec ks k).1 j hbst).2.1
            rw [hk2.2] at this
            exact this
          have HT : Hid (min t 1048576 = (wtN t : Int)) := Lib.hid (by have := (wtN_pos t).1 ht; unfold wtN; omega)
          have HTl := Lib.hid (wtN_le t)
          generalize wtN t = wt at ht HT HTl hk2
          have HK2 := Lib.hid hk2
          have hjL : (j : Int) < L := by omega
          have hj1 : (0 : Int) ≤ j := by omega
          have hj2 : ¬ (j : Int) < 0 := by omega
          clear hbst hm1 hz hk2 ht hj
          have HC4 : Hid (∀ u, Below w5.heap.size w5 u → (u.cell? ⟨b, off + k * 2, none⟩ = some (.int .i64 p) ∧ u.cell? ⟨b, off + k * 2 + 1, none⟩ = some (.int .i64 q)) ∧ (u.cell? ⟨b, off + j * 2, none⟩ = some (.int .i64 s) ∧ u.cell? ⟨b, off + j * 2 + 1, none⟩ = some (.int .i64 t))) := Lib.hid (fun u hu => by
            have h1 := HC.out u (HB5.out.trans (hu.mono HB5.out.size)) k hi0
            have h2 := HC.out u (HB5.out.trans (hu.mono HB5.out.size)) j hj0
            rw [HYk.out] at h1
            rw [HZ.out] at h2
            exact ⟨h1, h2⟩)
          have e1 : True → IntKind.i64.wrap ((costN x p r : Int) * (wt : Int)) = ((costN x p r * wt : Nat) : Int) := fun _ => low_prod (costN_le _ _ _) HTl.out
          have e2 : True → IntKind.i64.wrap ((costN x s r : Int) * (wq : Int)) = ((costN x s r * wq : Nat) : Int) := fun _ => low_prod (costN_le _ _ _) HW.out.2
          generalize hP : costN x p r * wt = P at e1
          generalize hQ : costN x s r * wq = Q at e2
          have HP := Lib.hid hP; have HQ := Lib.hid hQ
          clear hP hQ
          --RB
          have HD5 : Hid (Below w5.heap.size w5 w5.drew) := Lib.hid (below_drew (Below.refl _ _))
          refine wp_region_held_drew (S := fun u => (u.cell? ⟨b, off + k * 2, none⟩ = some (.int .i64 p) ∧ u.cell? ⟨b, off + k * 2 + 1, none⟩ = some (.int .i64 q)) ∧ (u.cell? ⟨b, off + j * 2, none⟩ = some (.int .i64 s) ∧ u.cell? ⟨b, off + j * 2 + 1, none⟩ = some (.int .i64 t))) (by kernel_rfl) (⟨⟨d1, d2⟩, d3, d4⟩) (fun hHeld => ?_)
          refine wpAnyH_take (i := 0) (oi := { dst := some 22, op := Op.move (Operand.tmp 8), type := 3, pos := "ref.go:26", after := #[], guard := none }) (v := ?_) rfl (by kernel_rfl) (by kernel_rfl) (by kernel_rfl) (fun _ _ _ h => h) (Or.inl ⟨by rfl, ?_⟩) hHeld ?_
          rotate_left 1
          · intro W hSw
            (try dsimp only at hSw)
            go_simp
            try with_reducible rfl
          try simp only [Act.put, List.setIfInBounds_toArray, List.set_cons_zero, List.set_cons_succ]
          refine wpAnyH_take (i := 1) (oi := { dst := some 23, op := Op.binOp BinOp.lss 3 (Operand.tmp 22) (Operand.const (Value.int IntKind.i64 0)) 3, type := 4, pos := "ref.go:26", after := #[{ on := 0, ground := Ground.data }], guard := none }) (v := ?_) rfl (by kernel_rfl) (by kernel_rfl) (by kernel_rfl) (fun _ _ _ h => h) (Or.inl ⟨by rfl, ?_⟩) hHeld ?_
          rotate_left 1
          · intro W hSw
            (try dsimp only at hSw)
            go_simp
            try with_reducible rfl
          try simp only [Act.put, List.setIfInBounds_toArray, List.set_cons_zero, List.set_cons_succ]
          refine wpAnyH_take (i := 2) (oi := { dst := some 24, op := Op.move (Operand.tmp 23), type := 4, pos := "ref.go:26", after := #[{ on := 1, ground := Ground.data }], guard := none }) (v := ?_) rfl (by kernel_rfl) (by kernel_rfl) (by kernel_rfl) (fun _ _ _ h => h) (Or.inl ⟨by rfl, ?_⟩) hHeld ?_
          rotate_left 1
          · intro W hSw
            (try dsimp only at hSw)
            go_simp
            try with_reducible rfl
          try simp only [Act.put, List.setIfInBounds_toArray, List.set_cons_zero, List.set_cons_succ]
          refine wpAnyH_take (i := 3) (oi := { dst := some 25, op := Op.move (Operand.tmp 1), type := 24, pos := "ref.go:26", after := #[{ on := 2, ground := Ground.guard }], guard := some (2, false) }) (v := ?_) rfl (by kernel_rfl) (by kernel_rfl) (by kernel_rfl) (fun _ _ _ h => h) (Or.inl ⟨by rfl, ?_⟩) hHeld ?_
          rotate_left 1
          · intro W hSw
            (try dsimp only at hSw)
            go_simp
            try with_reducible rfl
          try simp only [Act.put, List.setIfInBounds_toArray, List.set_cons_zero, List.set_cons_succ]
          refine wpAnyH_take (i := 4) (oi := { dst := some 26, op := Op.move (Operand.tmp 0), type := 33, pos := "ref.go:26", after := #[{ on := 2, ground := Ground.guard }], guard := some (2, false) }) (v := ?_) rfl (by kernel_rfl) (by kernel_rfl) (by kernel_rfl) (fun _ _ _ h => h) (Or.inl ⟨by rfl, ?_⟩) hHeld ?_
          rotate_left 1
          · intro W hSw
            (try dsimp only at hSw)
            go_simp
            try with_reducible rfl
          try simp only [Act.put, List.setIfInBounds_toArray, List.set_cons_zero, List.set_cons_succ]
          refine wpAnyH_take (i := 5) (oi := { dst := some 27, op := Op.move (Operand.tmp 9), type := 3, pos := "ref.go:26", after := #[{ on := 2, ground := Ground.guard }], guard := some (2, false) }) (v := ?_) rfl (by kernel_rfl) (by kernel_rfl) (by kernel_rfl) (fun _ _ _ h => h) (Or.inl ⟨by rfl, ?_⟩) hHeld ?_
          rotate_left 1
          · intro W hSw
            (try dsimp only at hSw)
            go_simp
            try with_reducible rfl
          try simp only [Act.put, List.setIfInBounds_toArray, List.set_cons_zero, List.set_cons_succ]
          refine wpAnyH_take (i := 6) (oi := { dst := some 28, op := Op.indexAddr 33 (Operand.tmp 26) (Operand.tmp 27), type := 0, pos := "ref.go:26", after := #[{ on := 4, ground := Ground.data }, { on := 5, ground := Ground.data }, { on := 2, ground := Ground.guard }], guard := some (2, false) }) (v := ?_) rfl (by kernel_rfl) (by kernel_rfl) (by kernel_rfl) (fun _ _ _ h => h) (Or.inl ⟨by rfl, ?_⟩) hHeld ?_
          rotate_left 1
          · intro W hSw
            (try dsimp only at hSw)
            go_simp
            try with_reducible rfl
          try simp only [Act.put, List.setIfInBounds_toArray, List.set_cons_zero, List.set_cons_succ]
          refine wpAnyH_take (i := 7) (oi := { dst := some 29, op := Op.fieldAddr 58 (Operand.tmp 28) 0, type := 0, pos := "ref.go:26", after := #[{ on := 6, ground := Ground.data }, { on := 2, ground := Ground.guard }], guard := some (2, false) }) (v := ?_) rfl (by kernel_rfl) (by kernel_rfl) (by kernel_rfl) (fun _ _ _ h => h) (Or.inl ⟨by rfl, ?_⟩) hHeld ?_
          rotate_left 1
          · intro W hSw
            (try dsimp only at hSw)
            go_simp
            try with_reducible rfl
          try simp only [Act.put, List.setIfInBounds_toArray, List.set_cons_zero, List.set_cons_succ]
          refine wpAnyH_take (i := 8) (oi := { dst := some 30, op := Op.load 3 (Operand.tmp 29), type := 3, pos := "ref.go:26", after := #[{ on := 7, ground := Ground.data }, { on := 2, ground := Ground.guard }], guard := some (2, false) }) (v := ?_) rfl (by kernel_rfl) (by kernel_rfl) (by kernel_rfl) (fun _ _ _ h => h) (Or.inl ⟨by rfl, ?_⟩) hHeld ?_
          rotate_left 1
          · intro W hSw
            (try dsimp only at hSw)
            go_simp
            try with_reducible rfl
          try simp only [Act.put, List.setIfInBounds_toArray, List.set_cons_zero, List.set_cons_succ]
          refine wpAnyH_take (i := 9) (oi := { dst := some 31, op := Op.move (Operand.tmp 2), type := 3, pos := "ref.go:26", after := #[{ on := 2, ground := Ground.guard }], guard := some (2, false) }) (v := ?_) rfl (by kernel_rfl) (by kernel_rfl) (by kernel_rfl) (fun _ _ _ h => h) (Or.inl ⟨by rfl, ?_⟩) hHeld ?_
          rotate_left 1
          · intro W hSw
            (try dsimp only at hSw)
            go_simp
            try with_reducible rfl
          try simp only [Act.put, List.setIfInBounds_toArray, List.set_cons_zero, List.set_cons_succ]
          refine wpAnyH_take (i := 11) (oi := { dst := some 33, op := Op.move (Operand.tmp 0), type := 33, pos := "ref.go:26", after := #[{ on := 2, ground := Ground.guard }], guard := some (2, false) }) (v := ?_) rfl (by kernel_rfl) (by kernel_rfl) (by kernel_rfl) (fun _ _ _ h => h) (Or.inl ⟨by rfl, ?_⟩) hHeld ?_
          rotate_left 1
          · intro W hSw
            (try dsimp only at hSw)
            go_simp
            try with_reducible rfl
          try simp only [Act.put, List.setIfInBounds_toArray, List.set_cons_zero, List.set_cons_succ]
          refine wpAnyH_take (i := 12) (oi := { dst := some 34, op := Op.move (Operand.tmp 8), type := 3, pos := "ref.go:26", after := #[{ on := 2, ground := Ground.guard }], guard := some (2, false) }) (v := ?_) rfl (by kernel_rfl) (by kernel_rfl) (by kernel_rfl) (fun _ _ _ h => h) (Or.inl ⟨by rfl, ?_⟩) hHeld ?_
          rotate_left 1
          · intro W hSw
            (try dsimp only at hSw)
            go_simp
            try with_reducible rfl
          try simp only [Act.put, List.setIfInBounds_toArray, List.set_cons_zero, List.set_cons_succ]
          refine wpAnyH_take (i := 13) (oi := { dst := some 35, op := Op.indexAddr 33 (Operand.tmp 33) (Operand.tmp 34), type := 0, pos := "ref.go:26", after := #[{ on := 11, ground := Ground.data }, { on := 12, ground := Ground.data }, { on := 2, ground := Ground.guard }], guard := some (2, false) }) (v := ?_) rfl (by kernel_rfl) (by kernel_rfl) (by kernel_rfl) (fun _ _ _ h => h) (Or.inl ⟨by rfl, ?_⟩) hHeld ?_
          rotate_left 1
          · intro W hSw
            (try dsimp only at hSw)
            go_simp
            try with_reducible rfl
          try simp only [Act.put, List.setIfInBounds_toArray, List.set_cons_zero, List.set_cons_succ]
          refine wpAnyH_take (i := 14) (oi := { dst := some 36, op := Op.load 58 (Operand.tmp 35), type := 58, pos := "ref.go:26", after := #[{ on := 13, ground := Ground.data }, { on := 2, ground := Ground.guard }], guard := some (2, false) }) (v := ?_) rfl (by kernel_rfl) (by kernel_rfl) (by kernel_rfl) (fun _ _ _ h => h) (Or.inl ⟨by rfl, ?_⟩) hHeld ?_
          rotate_left 1
          · intro W hSw
            (try dsimp only at hSw)
            go_simp
            try with_reducible rfl
          try simp only [Act.put, List.setIfInBounds_toArray, List.set_cons_zero, List.set_cons_succ]
          refine wpAnyH_take (i := 17) (oi := { dst := some 39, op := Op.move (Operand.tmp 1), type := 24, pos := "ref.go:26", after := #[{ on := 2, ground := Ground.guard }], guard := some (2, false) }) (v := ?_) rfl (by kernel_rfl) (by kernel_rfl) (by kernel_rfl) (fun _ _ _ h => h) (Or.inl ⟨by rfl, ?_⟩) hHeld ?_
          rotate_left 1
          · intro W hSw
            (try dsimp only at hSw)
            go_simp
            try with_reducible rfl
          try simp only [Act.put, List.setIfInBounds_toArray, List.set_cons_zero, List.set_cons_succ]
          refine wpAnyH_take (i := 18) (oi := { dst := some 40, op := Op.move (Operand.tmp 0), type := 33, pos := "ref.go:26", after := #[{ on := 2, ground := Ground.guard }], guard := some (2, false) }) (v := ?_) rfl (by kernel_rfl) (by kernel_rfl) (by kernel_rfl) (fun _ _ _ h => h) (Or.inl ⟨by rfl, ?_⟩) hHeld ?_
          rotate_left 1
          · intro W hSw
            (try dsimp only at hSw)
            go_simp
            try with_reducible rfl
          try simp only [Act.put, List.setIfInBounds_toArray, List.set_cons_zero, List.set_cons_succ]
          refine wpAnyH_take (i := 19) (oi := { dst := some 41, op := Op.move (Operand.tmp 8), type := 3, pos := "ref.go:26", after := #[{ on := 2, ground := Ground.guard }], guard := some (2, false) }) (v := ?_) rfl (by kernel_rfl) (by kernel_rfl) (by kernel_rfl) (fun _ _ _ h => h) (Or.inl ⟨by rfl, ?_⟩) hHeld ?_
          rotate_left 1
          · intro W hSw
            (try dsimp only at hSw)
            go_simp
            try with_reducible rfl
          try simp only [Act.put, List.setIfInBounds_toArray, List.set_cons_zero, List.set_cons_succ]
          refine wpAnyH_take (i := 20) (oi := { dst := some 42, op := Op.indexAddr 33 (Operand.tmp 40) (Operand.tmp 41), type := 0, pos := "ref.go:26", after := #[{ on := 18, ground := Ground.data }, { on := 19, ground := Ground.data }, { on := 2, ground := Ground.guard }], guard := some (2, false) }) (v := ?_) rfl (by kernel_rfl) (by kernel_rfl) (by kernel_rfl) (fun _ _ _ h => h) (Or.inl ⟨by rfl, ?_⟩) hHeld ?_
          rotate_left 1
          · intro W hSw
            (try dsimp only at hSw)
            go_simp
            try with_reducible rfl
          try simp only [Act.put, List.setIfInBounds_toArray, List.set_cons_zero, List.set_cons_succ]
          refine wpAnyH_take (i := 21) (oi := { dst := some 43, op := Op.fieldAddr 58 (Operand.tmp 42) 0, type := 0, pos := "ref.go:26", after := #[{ on := 20, ground := Ground.data }, { on := 2, ground := Ground.guard }], guard := some (2, false) }) (v := ?_) rfl (by kernel_rfl) (by kernel_rfl) (by kernel_rfl) (fun _ _ _ h => h) (Or.inl ⟨by rfl, ?_⟩) hHeld ?_
          rotate_left 1
          · intro W hSw
            (try dsimp only at hSw)
            go_simp
            try with_reducible rfl
          try simp only [Act.put, List.setIfInBounds_toArray, List.set_cons_zero, List.set_cons_succ]
          refine wpAnyH_take (i := 22) (oi := { dst := some 44, op := Op.load 3 (Operand.tmp 43), type := 3, pos := "ref.go:26", after := #[{ on := 21, ground := Ground.data }, { on := 2, ground := Ground.guard }], guard := some (2, false) }) (v := ?_) rfl (by kernel_rfl) (by kernel_rfl) (by kernel_rfl) (fun _ _ _ h => h) (Or.inl ⟨by rfl, ?_⟩) hHeld ?_
          rotate_left 1
          · intro W hSw
            (try dsimp only at hSw)
            go_simp
            try with_reducible rfl
          try simp only [Act.put, List.setIfInBounds_toArray, List.set_cons_zero, List.set_cons_succ]
          refine wpAnyH_take (i := 23) (oi := { dst := some 45, op := Op.move (Operand.tmp 2), type := 3, pos := "ref.go:26", after := #[{ on := 2, ground := Ground.guard }], guard := some (2, false) }) (v := ?_) rfl (by kernel_rfl) (by kernel_rfl) (by kernel_rfl) (fun _ _ _ h => h) (Or.inl ⟨by rfl, ?_⟩) hHeld ?_
          rotate_left 1
          · intro W hSw
            (try dsimp only at hSw)
            go_simp
            try with_reducible rfl
          try simp only [Act.put, List.setIfInBounds_toArray, List.set_cons_zero, List.set_cons_succ]
          refine wpAnyH_take (i := 25) (oi := { dst := some 47, op := Op.move (Operand.tmp 0), type := 33, pos := "ref.go:26", after := #[{ on := 2, ground := Ground.guard }], guard := some (2, false) }) (v := ?_) rfl (by kernel_rfl) (by kernel_rfl) (by kernel_rfl) (fun _ _ _ h => h) (Or.inl ⟨by rfl, ?_⟩) hHeld ?_
          rotate_left 1
          · intro W hSw
            (try dsimp only at hSw)
            go_simp
            try with_reducible rfl
          try simp only [Act.put, List.setIfInBounds_toArray, List.set_cons_zero, List.set_cons_succ]
          refine wpAnyH_take (i := 26) (oi := { dst := some 48, op := Op.move (Operand.tmp 9), type := 3, pos := "ref.go:26", after := #[{ on := 2, ground := Ground.guard }], guard := some (2, false) }) (v := ?_) rfl (by kernel_rfl) (by kernel_rfl) (by kernel_rfl) (fun _ _ _ h => h) (Or.inl ⟨by rfl, ?_⟩) hHeld ?_
          rotate_left 1
          · intro W hSw
            (try dsimp only at hSw)
            go_simp
            try with_reducible rfl
          try simp only [Act.put, List.setIfInBounds_toArray, List.set_cons_zero, List.set_cons_succ]
          refine wpAnyH_take (i := 27) (oi := { dst := some 49, op := Op.indexAddr 33 (Operand.tmp 47) (Operand.tmp 48), type := 0, pos := "ref.go:26", after := #[{ on := 25, ground := Ground.data }, { on := 26, ground := Ground.data }, { on := 2, ground := Ground.guard }], guard := some (2, false) }) (v := ?_) rfl (by kernel_rfl) (by kernel_rfl) (by kernel_rfl) (fun _ _ _ h => h) (Or.inl ⟨by rfl, ?_⟩) hHeld ?_
          rotate_left 1
          · intro W hSw
            (try dsimp only at hSw)
            go_simp
            try with_reducible rfl
          try simp only [Act.put, List.setIfInBounds_toArray, List.set_cons_zero, List.set_cons_succ]
          refine wpAnyH_take (i := 28) (oi := { dst := some 50, op := Op.load 58 (Operand.tmp 49), type := 58, pos := "ref.go:26", after := #[{ on := 27, ground := Ground.data }, { on := 2, ground := Ground.guard }], guard := some (2, false) }) (v := ?_) rfl (by kernel_rfl) (by kernel_rfl) (by kernel_rfl) (fun _ _ _ h => h) (Or.inl ⟨by rfl, ?_⟩) hHeld ?_
          rotate_left 1
          · intro W hSw
            (try dsimp only at hSw)
            go_simp
            try with_reducible rfl
          try simp only [Act.put, List.setIfInBounds_toArray, List.set_cons_zero, List.set_cons_succ]
          refine wpAnyH_ready (rs := [10]) (by kernel_rfl) (by simp) ?_
          refine AllReadyH.cons (o := { dst := some 32, op := Op.call { callee := Callee.value (Operand.func 46), args := #[Operand.tmp 25, Operand.tmp 30, Operand.tmp 31], argTypes := #[24, 3, 3] }, type := 2, pos := "ref.go:26", after := #[{ on := 3, ground := Ground.data }, { on := 8, ground := Ground.data }, { on := 9, ground := Ground.data }, { on := 2, ground := Ground.chain }, { on := 2, ground := Ground.guard }], guard := some (2, false) }) rfl (fun K7 hK7 => ?_) ?_
          · go_simp
            refine (rCost_bel _ _ _ HXl.out _).mono ?_
            rintro e w6 ⟨rfl, hb⟩
            have HB6 : Hid (Below w5.heap.size w5 w6) := Lib.hid (HD5.out.trans (hb.mono HD5.out.size))
            clear hb
            try dsimp only
            refine hK7.out _ _ (HC4.out _ HB6.out) (fun hHeld => ?_)
            clear hK7 K7
            try simp only [Act.put, List.setIfInBounds_toArray, List.set_cons_zero, List.set_cons_succ]
            refine wpAnyH_ready (rs := [15]) (by kernel_rfl) (by simp) ?_
            refine AllReadyH.cons (o := { dst := some 37, op := Op.call { callee := Callee.value (Operand.func 45), args := #[Operand.tmp 36], argTypes := #[58] }, type := 2, pos := "ref.go:26", after := #[{ on := 14, ground := Ground.data }, { on := 10, ground := Ground.chain }, { on := 2, ground := Ground.guard }], guard := some (2, false) }) rfl (fun K7 hK7 => ?_) ?_
            · go_simp
              refine (weight_m _ _ (wt : Int) HT.out _).mono ?_
              rintro e w7 ⟨rfl, hb⟩
              have HB7 : Hid (Below w5.heap.size w5 w7) := Lib.hid (HB6.out.trans (hb.mono HB6.out.size))
              clear hb
              try dsimp only
              refine hK7.out _ _ (HC4.out _ HB7.out) (fun hHeld => ?_)
              clear hK7 K7
              try simp only [Act.put, List.setIfInBounds_toArray, List.set_cons_zero, List.set_cons_succ]
              refine wpAnyH_take (i := 16) (oi := { dst := some 38, op := Op.binOp BinOp.mul 2 (Operand.tmp 32) (Operand.tmp 37) 2, type := 2, pos := "ref.go:26", after := #[{ on := 10, ground := Ground.data }, { on := 15, ground := Ground.data }, { on := 2, ground := Ground.guard }], guard := some (2, false) }) (v := ?_) rfl (by kernel_rfl) (by kernel_rfl) (by kernel_rfl) (fun _ _ _ h => h) (Or.inl ⟨by rfl, ?_⟩) hHeld ?_
              rotate_left 1
              · intro W hSw
                (try dsimp only at hSw)
                go_simp
                try with_reducible rfl
              try simp only [Act.put, List.setIfInBounds_toArray, List.set_cons_zero, List.set_cons_succ]
              refine wpAnyH_ready (rs := [24]) (by kernel_rfl) (by simp) ?_
              refine AllReadyH.cons (o := { dst := some 46, op := Op.call { callee := Callee.value (Operand.func 46), args := #[Operand.tmp 39, Operand.tmp 44, Operand.tmp 45], argTypes := #[24, 3, 3] }, type := 2, pos := "ref.go:26", after := #[{ on := 17, ground := Ground.data }, { on := 22, ground := Ground.data }, { on := 23, ground := Ground.data }, { on := 15, ground := Ground.chain }, { on := 2, ground := Ground.guard }], guard := some (2, false) }) rfl (fun K7 hK7 => ?_) ?_
              · go_simp
                refine (rCost_bel _ _ _ HXl.out _).mono ?_
                rintro e w8 ⟨rfl, hb⟩
                have HB8 : Hid (Below w5.heap.size w5 w8) := Lib.hid (HB7.out.trans (hb.mono HB7.out.size))
                clear hb
                try dsimp only
                refine hK7.out _ _ (HC4.out _ HB8.out) (fun hHeld => ?_)
                clear hK7 K7
                try simp only [Act.put, List.setIfInBounds_toArray, List.set_cons_zero, List.set_cons_succ]
                refine wpAnyH_ready (rs := [29]) (by kernel_rfl) (by simp) ?_
                refine AllReadyH.cons (o := { dst := some 51, op := Op.call { callee := Callee.value (Operand.func 45), args := #[Operand.tmp 50], argTypes := #[58] }, type := 2, pos := "ref.go:26", after := #[{ on := 28, ground := Ground.data }, { on := 24, ground := Ground.chain }, { on := 2, ground := Ground.guard }], guard := some (2, false) }) rfl (fun K7 hK7 => ?_) ?_
                · go_simp
                  refine (weight_m _ _ (wq : Int) HM.out _).mono ?_
                  rintro e w9 ⟨rfl, hb⟩
                  have HB9 : Hid (Below w5.heap.size w5 w9) := Lib.hid (HB8.out.trans (hb.mono HB8.out.size))
                  clear hb
                  try dsimp only
                  refine hK7.out _ _ (HC4.out _ HB9.out) (fun hHeld => ?_)
                  clear hK7 K7
                  try simp only [Act.put, List.setIfInBounds_toArray, List.set_cons_zero, List.set_cons_succ]
                  refine wpAnyH_take (i := 30) (oi := { dst := some 52, op := Op.binOp BinOp.mul 2 (Operand.tmp 46) (Operand.tmp 51) 2, type := 2, pos := "ref.go:26", after := #[{ on := 24, ground := Ground.data }, { on := 29, ground := Ground.data }, { on := 2, ground := Ground.guard }], guard := some (2, false) }) (v := ?_) rfl (by kernel_rfl) (by kernel_rfl) (by kernel_rfl) (fun _ _ _ h => h) (Or.inl ⟨by rfl, ?_⟩) hHeld ?_
                  rotate_left 1
                  · intro W hSw
                    (try dsimp only at hSw)
                    go_simp
                    try with_reducible rfl
                  try simp only [Act.put, List.setIfInBounds_toArray, List.set_cons_zero, List.set_cons_succ]
                  refine wpAnyH_take (i := 31) (oi := { dst := some 53, op := Op.binOp BinOp.lss 2 (Operand.tmp 38) (Operand.tmp 52) 2, type := 4, pos := "ref.go:26", after := #[{ on := 16, ground := Ground.data }, { on := 30, ground := Ground.data }, { on := 2, ground := Ground.guard }], guard := some (2, false) }) (v := ?_) rfl (by kernel_rfl) (by kernel_rfl) (by kernel_rfl) (fun _ _ _ h => h) (Or.inl ⟨by rfl, ?_⟩) hHeld ?_
                  rotate_left 1
                  · intro W hSw
                    (try dsimp only at hSw)
                    go_simp
                    try with_reducible rfl
                  try simp only [Act.put, List.setIfInBounds_toArray, List.set_cons_zero, List.set_cons_succ]
                  refine wpAnyH_take (i := 32) (oi := { dst := some 54, op := Op.pick (Operand.tmp 24) (Operand.const (Value.bool true)) (Operand.tmp 53), type := 4, pos := "ref.go:26", after := #[{ on := 2, ground := Ground.data }, { on := 31, ground := Ground.data }], guard := none }) (v := ?_) rfl (by kernel_rfl) (by kernel_rfl) (by kernel_rfl) (fun _ _ _ h => h) (Or.inl ⟨by rfl, ?_⟩) hHeld ?_
                  rotate_left 1
                  · intro W hSw
                    (try dsimp only at hSw)
                    go_simp
                    try with_reducible rfl
                  try simp only [Act.put, List.setIfInBounds_toArray, List.set_cons_zero, List.set_cons_succ]
                  refine wpAnyH_done (by kernel_rfl) ?_ _
                  have HE := Lib.hid (bestI_then ks k j wq P Q HK1.out.2 HW.out.1 HBn.out (by rw [HK1.out.1, HK2.out.2, HP.out]) (by rw [HK2.out.1, HQ.out]))
                  have HBl : Hid (Below w.heap.size w w9) := Lib.hid (HB.out.trans ((HB5.out.trans (HB9.out.mono HB5.out.size)).mono HB.out.size))
                  clear e1 e2 d1 d2 d3 d4 hHeld
                  by_cases hpq : P < Q
                  · rw [if_pos hpq] at HE
                    have hd : True → decide ((P : Int) < (Q : Int)) = true := fun _ => by rw [decide_eq_true_iff]; omega
                    go_wp2
                    go_roundw
                    case rel => exact ⟨k + 1, by omega, by go_num, by rw [HE.out], HBl.out⟩
                    case measure => simp [intOf]; omega
                  · rw [if_neg hpq] at HE
                    have hd : True → decide ((P : Int) < (Q : Int)) = false := fun _ => by rw [decide_eq_false_iff_not]; omega
                    go_wp2
                    go_roundw
                    case rel => exact ⟨k + 1, by omega, by go_num, by rw [HE.out], HBl.out⟩
                    case measure => simp [intOf]; omega
                exact AllReadyH.nil
              exact AllReadyH.nil
            exact AllReadyH.nil
          exact AllReadyH.nil
          --RBE
    · obtain rfl : k = L := by omega
      have HF : Hid (chosen ks = .tuple #[.int .i64 (max (bestI ks k) 0), .bool (decide (0 ≤ bestI ks k))]) := Lib.hid (by
        have hl : ks.length = k := by rw [← HKs.out, keys_len, HL.out]
        unfold chosen pick bestI
        rw [hl]
        cases best ks k with
        | none => rfl
        | some j => simp)
      generalize bestI ks k = z at HF ⊢
      go_wp2
      go_ret2
      exact ⟨by rw [HF.out]; simp, HB.out⟩

end Go.Proofs.Ytngmcolbpdinmaa.crush
