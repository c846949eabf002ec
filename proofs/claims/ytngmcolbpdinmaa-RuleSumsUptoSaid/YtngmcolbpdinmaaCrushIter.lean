/- The straws of a list, one after another. -/
import Derived.Test.YtngmcolbpdinmaaRows
import Derived.Test.YtngmcolbpdinmaaIter
import Derived.Test.YtngmcolbpdinmaaCrushCost
import Derived.Test.YtngmcolbpdinmaaHeldIn
import Derived.RangeFuncRecord
import Derived.Stop.RegionWithIn
import Derived.RegionIn
import Derived.Sort.CutIn
import Derived.BigRegionIn
import Derived.Shelf.RegionOpen
namespace Go.Proofs.Ytngmcolbpdinmaa.crush
open Go.RowKit
open Go.Proofs.Ytngmcolbpdinmaa.kit Go.Proofs.Ytngmcolbpdinmaa.own Go.Proofs.Ytngmcolbpdinmaa.iter Go.Proofs.Ytngmcolbpdinmaa.heldin
set_option linter.unusedVariables false
attribute [local go_sem] Oper.semAt_some

/-- The straw of the item at place i. -/
def strA (x : Nat) (r : Int) (i : Nat) (y : It) : Str := ⟨y.1, wtN y.2, i, costN x y.1 r⟩

/-- Items' boxes stay. -/
def KeepI (W W' : World) : Prop := ∀ (b : Nat) (cs : Array Value), W.heap[b]? = some (Obj.cells cs 58 (0, 0)) → W'.heap[b]? = some (Obj.cells cs 58 (0, 0))

/-- What a region's walk has to show where it never panics. -/
def Calm (Q : Exit → Act → World → Prop) : Exit → Act → World → Prop
  | .normal, a, w => Q .normal a w
  | _, _, _ => False
theorem wpIn_calm {F : Fence} {n : Nat} {P : Program} {c : Code} {Q : Exit → Act → World → Prop} {a : Act} {w : World} (h : c.wpIn F n P (Calm Q) a w) : c.wpIn F n P Q a w := by
  refine Go.wpIn_mono h (fun e a w h => ?_)
  cases e <;> first | exact h | exact h.elim

theorem calm_normal {Q : Exit → Act → World → Prop} {a : Act} {w : World} (h : Q .normal a w) : Calm Q .normal a w := h

set_option maxHeartbeats 4000000 in
set_option maxRecDepth 100000 in
theorem straws1_any (l b0 b1 b2 : Nat) (x : Nat) (hx : x < 4294967296) (r : Int) (xs : List It) (v : Value) (I : Nat → World → Prop) (hlx : xs.length ≤ 1000000000)
    (hcells : ∀ i W, I i W → W.cell? ⟨b0, 0, none⟩ = some v ∧ W.cell? ⟨b1, 0, none⟩ = some (.int .u32 x) ∧ W.cell? ⟨b2, 0, none⟩ = some (.int .i64 r) ∧ Sl wc 2 W v xs)
    (hbelow : ∀ i W W', I i W → Below W.heap.size W W' → I i W')
    (hskip : ∀ i W (h : i < xs.length), wtN xs[i].2 = 0 → I i W → I (i + 1) W)
    (hyield : ∀ i W (h : i < xs.length), 0 < wtN xs[i].2 → I i W → YieldAt Fence.wide 0 Try.prog l #[.agg (sc (strA x r i xs[i])).toArray] W fun e W' => e = .returned (.bool true) ∧ I (i + 1) W' ∧ KeepI W W')
    (W : World) (h0 : I 0 W) :
    CallsIn Fence.wide 0 Try.prog 51 #[.func (.yield l) #[] #[], .pointer (some ⟨b0, 0, none⟩), .pointer (some ⟨b1, 0, none⟩), .pointer (some ⟨b2, 0, none⟩)] W fun e W' => (∃ v, e = .returned v) ∧ I xs.length W' := by
  obtain ⟨c1, -, -, hs⟩ := hcells 0 W h0
  obtain ⟨hl, a, cap, rfl, -, -⟩ := id hs
  obtain ⟨L, hL⟩ : ∃ L, xs.length = L := ⟨_, rfl⟩
  have HL := Lib.hid hL
  rw [hL] at hl c1 hlx ⊢
  have HC : Hid (∀ i W, I i W → W.cell? ⟨b0, 0, none⟩ = some (.slice a L cap) ∧ W.cell? ⟨b1, 0, none⟩ = some (.int .u32 x) ∧ W.cell? ⟨b2, 0, none⟩ = some (.int .i64 r) ∧ Sl wc 2 W (.slice a L cap) xs) := by rw [← hL]; exact hcells
  have HBl := Lib.hid hbelow; have HY := Lib.hid hyield; have HSk := Lib.hid hskip; have HI0 := Lib.hid h0
  have HX := Lib.hid hx
  clear hcells hbelow hyield hskip hs hL h0 hx
  refine callsIn_of_wp Try.func51 rfl trivial ?_ rfl
  simp only [Try.ntmps51, List.size_toArray, List.length_cons, List.length_nil, Nat.reduceAdd, Nat.reduceSub, Array.replicate_succ, Array.replicate_zero, List.push_toArray, List.append_toArray, List.nil_append, List.cons_append]
  gi_wp2
  clear c1
  gi_loopw [9] (fun v wr => ∃ k : Nat, k ≤ L ∧ v = .int .i64 k ∧ I k wr) (fun v _ => L - (intOf v).toNat)
  case atStart => exact ⟨0, by omega, rfl, HI0.out⟩
  case round =>
    obtain ⟨k, hk, rfl, hi⟩ := hrel
    by_cases hlt : k < L
    · have hlt' : (k : Int) < L := by omega
      have hi0 : k < xs.length := by rw [HL.out]; exact hlt
      have HI := Lib.hid hi
      obtain ⟨_, _, _, hs⟩ := HC.out _ wr hi
      obtain ⟨_, a', cap', he, -, hcell⟩ := hs
      have he' : a = a' ∧ cap = cap' := by cases he; exact ⟨rfl, rfl⟩
      obtain ⟨rfl, rfl⟩ := he'
      clear he
      obtain ⟨b, off, rfl, hbl, hcell⟩ := hcell (by omega)
      obtain ⟨d1, d2⟩ := wcells_at (hcell k hi0)
      clear hcell hbl hi
      have HSk1 : Hid (∀ W, wtN xs[k].2 = 0 → I k W → I (k + 1) W) := Lib.hid (fun W h0 hi => HSk.out k W hi0 h0 hi)
      have HYk : Hid (∀ W, 0 < wtN xs[k].2 → I k W → YieldAt Fence.wide 0 Try.prog l #[.agg (sc (strA x r k xs[k])).toArray] W fun e W' => e = .returned (.bool true) ∧ I (k + 1) W' ∧ KeepI W W') := Lib.hid (fun W hw hi => HY.out k W hi0 hw hi)
      obtain ⟨y, hy⟩ : ∃ y, xs[k] = y := ⟨_, rfl⟩
      rw [hy] at d1 d2 HSk1 HYk
      obtain ⟨p, q⟩ := y
      simp only at d1 d2 HSk1
      have hb1 := below_new wr (ibox (p, q))
      have HB1 := Lib.hid hb1
      have hX := alloc_at wr (ibox (p, q))
      have HI1 := Lib.hid (HBl.out _ wr _ HI.out hb1)
      simp only [ibox] at hX HI1 HB1
      obtain ⟨e1, e2⟩ := ibox_at (x := (p, q)) hX
      obtain ⟨f1, f2⟩ := ibox_thaw (x := (p, q)) hX
      simp only at e1 e2
      clear hb1 hy
      gi_upto_region 3 with fail
      generalize (wr.alloc (.cells #[.int .i64 p, .int .i64 q] 58)) = W0 at hX HI1 HB1 e1 e2 f1 f2 ⊢
      obtain ⟨M, hM⟩ : ∃ M, wr.heap.size = M := ⟨_, rfl⟩
      rw [hM] at hX e1 e2 f1 f2 ⊢
      have HX0 := Lib.hid hX
      have HBM : Hid (wr.heap.size ≤ M) := Lib.hid (by omega)
      clear d1 d2 hM hX
      by_cases hq : q < 1
      · have HI2 := Lib.hid (HSk1.out W0 ((wtN_zero q).2 hq) HI1.out)
        gi_wp2
        clear e1 e2 f1 f2
        go_roundw
        case rel => exact ⟨k + 1, by omega, by go_num, HI2.out⟩
        case measure => simp [intOf]; omega
      · gi_upto_region 5 with fail
        have hmin : min q 1048576 = (wtN q : Int) := by unfold wtN; omega
        have hpos : 0 < wtN q := (wtN_pos q).2 (by omega)
        rw [hmin]
        have hx2 := heap_setCell_same W0 M 1 _ _ (.int .i64 (wtN q)) HX0.out
        have hb2 : Below wr.heap.size wr (W0.setCell ⟨M, 1, none⟩ (.int .i64 (wtN q))) := HB1.out.setCell (p := ⟨M, 1, none⟩) HBM.out _
        generalize W0.setCell ⟨M, 1, none⟩ (.int .i64 (wtN q)) = W1 at hx2 hb2 ⊢
        have HI2 := Lib.hid (HBl.out _ wr _ HI.out hb2)
        have HX1 : Hid (W1.heap[M]? = some (ibox (p, (wtN q : Int)))) := Lib.hid hx2
        clear hx2 hb2 e1 e2 f1 f2 hmin
        have hd : Below W1.heap.size W1 W1.drew := below_drew (Below.refl _ _)
        have HI3 := Lib.hid (HBl.out _ W1 _ HI2.out hd)
        have HX2 : Hid (W1.drew.heap[M]? = some (ibox (p, (wtN q : Int)))) := HX1
        obtain ⟨e1, e2⟩ := ibox_at HX2.out
        obtain ⟨e0, e3, e4, -⟩ := HC.out _ _ HI3.out
        simp only at e1 e2
        clear hd
        have mixed : Try.prog.follows .mixedOrders = true := by kernel_rfl
        have HI4 := Lib.hid (HBl.out _ _ _ HI2.out (below_drew (below_new W1 (.cells #[.int .u32 x, .int .u32 (w32 p), .int .u32 (w32 r)] 24))))
        have hx4 : (W1.alloc (.cells #[.int .u32 x, .int .u32 (w32 p), .int .u32 (w32 r)] 24)).drew.heap[M]? = some (ibox (p, (wtN q : Int))) := ((below_new W1 (.cells #[.int .u32 x, .int .u32 (w32 p), .int .u32 (w32 r)] 24)).block M (Array.getElem?_eq_some_iff.1 HX1.out).1).trans HX1.out
        obtain ⟨g1, g2⟩ := ibox_at hx4
        obtain ⟨g0, g3, g4, -⟩ := HC.out _ _ HI4.out
        simp only at g1 g2
        have HX4 := Lib.hid hx4
        clear hx4
        obtain ⟨fn, tmps, asg, bd, hy, hYr⟩ := HYk.out _ hpos HI4.out
        simp only [sc, strA] at hy
        have HYr := Lib.hid hYr
        clear hYr hpos
        --R5
        refine wpIn_calm ?_
        refine region_heldIn (S := fun u => u.cell? ⟨M, 0, none⟩ = some (.int .i64 p) ∧ u.cell? ⟨M, 1, none⟩ = some (.int .i64 (wtN q : Int)) ∧ u.cell? ⟨b1, 0, none⟩ = some (.int .u32 x) ∧ u.cell? ⟨b2, 0, none⟩ = some (.int .i64 r)) (by kernel_rfl) (⟨e1, e2, e3, e4⟩) (fun hHeld => ?_)
        refine heldIn_take (i := 0) (oi := { dst := some 21, op := Op.move (Operand.tmp 0), type := 77, pos := "straw.go:31", after := #[], guard := none }) (v := ?_) rfl rfl (by kernel_rfl) (by kernel_rfl) (by kernel_rfl) (fun _ _ _ h => h) (Or.inl ⟨by rfl, ?_⟩) (fun _ => rfl) hHeld ?_
        rotate_left 1
        · intro W hSw
          (try dsimp only at hSw)
          go_simp
          try with_reducible rfl
        try simp only [Act.put, List.setIfInBounds_toArray, List.set_cons_zero, List.set_cons_succ]
        refine heldIn_take (i := 1) (oi := { dst := some 22, op := Op.load 58 (Operand.tmp 6), type := 58, pos := "straw.go:31", after := #[], guard := none }) (v := ?_) rfl rfl (by kernel_rfl) (by kernel_rfl) (by kernel_rfl) (fun _ _ _ h => h) (Or.inl ⟨by rfl, ?_⟩) (fun _ => rfl) hHeld ?_
        rotate_left 1
        · intro W hSw
          (try dsimp only at hSw)
          go_simp
          try with_reducible rfl
        try simp only [Act.put, List.setIfInBounds_toArray, List.set_cons_zero, List.set_cons_succ]
        refine heldIn_take (i := 2) (oi := { dst := some 23, op := Op.move (Operand.tmp 5), type := 3, pos := "straw.go:31", after := #[], guard := none }) (v := ?_) rfl rfl (by kernel_rfl) (by kernel_rfl) (by kernel_rfl) (fun _ _ _ h => h) (Or.inl ⟨by rfl, ?_⟩) (fun _ => rfl) hHeld ?_
        rotate_left 1
        · intro W hSw
          (try dsimp only at hSw)
          go_simp
          try with_reducible rfl
        try simp only [Act.put, List.setIfInBounds_toArray, List.set_cons_zero, List.set_cons_succ]
        refine heldIn_take (i := 3) (oi := { dst := some 24, op := Op.load 24 (Operand.tmp 2), type := 24, pos := "straw.go:31", after := #[], guard := none }) (v := ?_) rfl rfl (by kernel_rfl) (by kernel_rfl) (by kernel_rfl) (fun _ _ _ h => h) (Or.inl ⟨by rfl, ?_⟩) (fun _ => rfl) hHeld ?_
        rotate_left 1
        · intro W hSw
          (try dsimp only at hSw)
          go_simp
          try with_reducible rfl
        try simp only [Act.put, List.setIfInBounds_toArray, List.set_cons_zero, List.set_cons_succ]
        refine heldIn_take (i := 4) (oi := { dst := some 25, op := Op.fieldAddr 58 (Operand.tmp 6) 0, type := 0, pos := "straw.go:31", after := #[], guard := none }) (v := ?_) rfl rfl (by kernel_rfl) (by kernel_rfl) (by kernel_rfl) (fun _ _ _ h => h) (Or.inl ⟨by rfl, ?_⟩) (fun _ => rfl) hHeld ?_
        rotate_left 1
        · intro W hSw
          (try dsimp only at hSw)
          go_simp
          try with_reducible rfl
        try simp only [Act.put, List.setIfInBounds_toArray, List.set_cons_zero, List.set_cons_succ]
        refine heldIn_take (i := 5) (oi := { dst := some 26, op := Op.load 3 (Operand.tmp 25), type := 3, pos := "straw.go:31", after := #[{ on := 4, ground := Ground.data }], guard := none }) (v := ?_) rfl rfl (by kernel_rfl) (by kernel_rfl) (by kernel_rfl) (fun _ _ _ h => h) (Or.inl ⟨by rfl, ?_⟩) (fun _ => rfl) hHeld ?_
        rotate_left 1
        · intro W hSw
          (try dsimp only at hSw)
          go_simp
          try with_reducible rfl
        try simp only [Act.put, List.setIfInBounds_toArray, List.set_cons_zero, List.set_cons_succ]
        refine heldIn_take (i := 6) (oi := { dst := some 27, op := Op.load 3 (Operand.tmp 3), type := 3, pos := "straw.go:31", after := #[], guard := none }) (v := ?_) rfl rfl (by kernel_rfl) (by kernel_rfl) (by kernel_rfl) (fun _ _ _ h => h) (Or.inl ⟨by rfl, ?_⟩) (fun _ => rfl) hHeld ?_
        rotate_left 1
        · intro W hSw
          (try dsimp only at hSw)
          go_simp
          try with_reducible rfl
        try simp only [Act.put, List.setIfInBounds_toArray, List.set_cons_zero, List.set_cons_succ]
        refine heldIn_ready (rs := [7]) (by kernel_rfl) (by simp) ?_
        refine AllIn.cons (o := { dst := some 28, op := Op.call { callee := Callee.value (Operand.func 52), args := #[Operand.tmp 24, Operand.tmp 26, Operand.tmp 27], argTypes := #[24, 3, 3] }, type := 2, pos := "straw.go:31", after := #[{ on := 3, ground := Ground.data }, { on := 5, ground := Ground.data }, { on := 6, ground := Ground.data }], guard := none }) rfl (fun K7 hK7 => ?_) ?_
        · go_simp
          refine ⟨trivial, rfl, ?_⟩
          refine (callsIn_wide.2 (Cost_any _ _ _ HX.out _)).mono ?_
          rintro e w5 ⟨rfl, rfl⟩
          try dsimp only
          refine hK7.out _ _ (⟨g1, g2, g3, g4⟩) (fun hHeld => ?_)
          clear hK7 K7
          try simp only [Act.put, List.setIfInBounds_toArray, List.set_cons_zero, List.set_cons_succ]
          refine heldIn_take (i := 8) (oi := { dst := some 29, op := Op.build 69 #[(0, Operand.tmp 22), (1, Operand.tmp 23), (2, Operand.tmp 28)], type := 69, pos := "straw.go:31", after := #[{ on := 1, ground := Ground.data }, { on := 2, ground := Ground.data }, { on := 7, ground := Ground.data }], guard := none }) (v := ?_) rfl rfl (by kernel_rfl) (by kernel_rfl) (by kernel_rfl) (fun _ _ _ h => h) (Or.inl ⟨by rfl, ?_⟩) (fun _ => rfl) hHeld ?_
          rotate_left 1
          · intro W hSw
            (try dsimp only at hSw)
            go_simp
            try with_reducible rfl
          try simp only [Act.put, List.setIfInBounds_toArray, List.set_cons_zero, List.set_cons_succ]
          refine heldIn_ready (rs := [9]) (by kernel_rfl) (by simp) ?_
          refine AllIn.cons (o := { dst := some 30, op := Op.call { callee := Callee.value (Operand.tmp 21), args := #[Operand.tmp 29], argTypes := #[69] }, type := 4, pos := "straw.go:31", after := #[{ on := 0, ground := Ground.data }, { on := 8, ground := Ground.data }, { on := 7, ground := Ground.chain }], guard := none }) rfl (fun K7 hK7 => ?_) ?_
          · go_simp
            refine ⟨rfl, HYr.out.mono ?_⟩
            rintro e W3 ⟨rfl, hI, hKe⟩
            have HI9 := Lib.hid hI
            have hx9 := hKe M _ HX4.out
            obtain ⟨j1, j2⟩ := ibox_at (x := (p, (wtN q : Int))) hx9
            obtain ⟨-, j3, j4, -⟩ := HC.out _ _ HI9.out
            clear hI hKe hx9
            try dsimp only
            refine hK7.out _ _ (⟨j1, j2, j3, j4⟩) (fun hHeld => ?_)
            clear hK7 K7
            try simp only [Act.put, List.setIfInBounds_toArray, List.set_cons_zero, List.set_cons_succ]
            refine heldIn_take (i := 10) (oi := { dst := some 31, op := Op.unOp UnOp.not 4 (Operand.tmp 30), type := 4, pos := "straw.go:31", after := #[{ on := 9, ground := Ground.data }], guard := none }) (v := ?_) rfl rfl (by kernel_rfl) (by kernel_rfl) (by kernel_rfl) (fun _ _ _ h => h) (Or.inl ⟨by rfl, ?_⟩) (fun _ => rfl) hHeld ?_
            rotate_left 1
            · intro W hSw
              (try dsimp only at hSw)
              go_simp
              try with_reducible rfl
            try simp only [Act.put, List.setIfInBounds_toArray, List.set_cons_zero, List.set_cons_succ]
            refine heldIn_done (by kernel_rfl) ?_ _
            refine calm_normal ?_
            clear e0 e1 e2 e3 e4 g0 g1 g2 g3 g4 hy
            gi_wp2
            go_roundw
            case rel => exact ⟨k + 1, by omega, by go_num, HI9.out⟩
            case measure => simp [intOf]; omega
          exact AllIn.nil
        exact AllIn.nil
        --R5E
    · obtain rfl : k = L := by omega
      have HI : Hid (I k wr) := Lib.hid hi
      clear hi
      gi_wp2
      go_end0
      exact ⟨⟨_, rfl⟩, HI.out⟩

end Go.Proofs.Ytngmcolbpdinmaa.crush
