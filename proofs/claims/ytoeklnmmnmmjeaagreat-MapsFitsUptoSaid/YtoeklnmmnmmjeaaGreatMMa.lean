/- Texts laid together: MapsPool, MapsChg5, MapsOrd, MapsBans, MapsBs, MapsIns, MapsInsG, MapsInsA, MapsBan, MapsChg6. -/
import Derived.Test.YtoeklnmmnmmjeaaGreatRows
import Derived.Test.YtoeklnmmnmmjeaaGreatMapsChg
import Derived.Test.YtoeklnmmnmmjeaaGreatRuleApp
import Derived.Test.YtoeklnmmnmmjeaaGreatMapsRow
import Derived.Test.YtoeklnmmnmmjeaaGreatMapsInc
import Derived.Sort.Grow
import Derived.Deep.WholeRow
import Derived.Test.YtoeklnmmnmmjeaaGreatMapsFitM
import Derived.Deep.RegionHeld3
import Derived.Test.YtoeklnmmnmmjeaaGreatMapsFar
import Derived.Shelf.Spec.SlicesInsert
import Derived.Lib.AppendZerosOnto
import Derived.Laws.NewBlocks
namespace Go.Proofs.YtoeklnmmnmmjeaaGreat.crush
open Go.RowKit
open Go.Proofs.YtoeklnmmnmmjeaaGreat.kit Go.Proofs.YtoeklnmmnmmjeaaGreat.own
set_option linter.unusedVariables false

def poolE (p : PoolV) (m : MapV) : MapV × Bool := if 2 ≤ m.pools.length then (m, false) else (⟨m.epoch, m.hosts, m.osds, m.pools ++ [p], m.bans⟩, true)

theorem below_set1 {B : Nat → Prop} {w w' : World} (h : Far B w w') {b : Nat} (hb : ¬ B b) (o : Nat) (v : Value) : Far B w (w'.setCell ⟨b, o, none⟩ v) := h.setCell (p := ⟨b, o, none⟩) hb v
theorem SheetG.pools {U w' : World} {B : Nat → Prop} {S g cap : Nat} {m : MapV} (h : SheetG U B S g cap m) {v' : Value} {ps : List PoolV} (hk : Kept 0 29 U w') (ho : OwnP pc 4 29 w' B v' ps) :
    SheetG (w'.setCell ⟨S, 3, none⟩ v') B S g cap ⟨m.epoch, m.hosts, m.osds, ps, m.bans⟩ := by
  obtain ⟨h0, hg, vh, vp, vb, h1, h2, h3, h4, h5⟩ := h
  have hx := hk.box (by decide) h1
  obtain ⟨cur, hc, -⟩ := h3.ex
  have hne : g ≠ S := fun e => by subst e; unfold MBox at h1; rw [h1] at hc; cases hc
  have hko : ∀ {α : Type} {enc : α → List Value} {k e : Nat} {v : Value} {xs : List α}, OwnP enc k e U B v xs → e ≠ 29 → OwnP enc k e w' B v xs := by
    intro α enc k e v xs h hne
    obtain ⟨⟨q1, q2⟩, q3⟩ := id h
    refine ⟨⟨q1, ?_⟩, q3⟩
    rcases q2 with ⟨rfl, h0⟩ | ⟨g, cap, cur, rfl, hB, hg, hr⟩
    · exact .inl ⟨rfl, h0⟩
    · refine .inr ⟨g, cap, cur, rfl, hB, (hk.other g (Array.getElem?_eq_some_iff.1 hg).1 (fun c f e2 => ?_)).trans hg, hr⟩
      rw [hg] at e2
      injection e2 with e3
      injection e3 with _ e4
      exact hne e4
  have h3' : OwnAt oc 4 74 w' g cap m.osds := by
    obtain ⟨cur, q1, q2, q3⟩ := h3.ex
    exact ⟨⟨cur, hk.box (by decide) q1, q2, q3⟩, h3.le, h3.max⟩
  exact ⟨h0, hg, vh, v', vb, heap_setCell_same w' S 3 _ _ v' hx, (hko h2 (by decide)).far hx (by decide) _ _, h3'.block (heap_setCell_other _ _ _ _ hne), ho.far hx (by decide) _ _, (hko h5 (by decide)).far hx (by decide) _ _⟩

set_option maxHeartbeats 16000000 in
set_option maxRecDepth 100000 in
theorem pool_any (c : IncV) (B : Nat → Prop) (S g cap : Nat) (m : MapV) (w : World) (h : SheetG w B S g cap m) (hB : In B w) :
    Calls Tryz.prog 199 #[.pointer (some ⟨S, 0, none⟩), c.val] w (StO B S g cap (poolE c.pool m) w) := by
  have hb := below_new w (.cells #[.int .i64 c.kind, .int .i64 c.osd, .int .i64 c.client, .int .i64 c.num, .int .i64 c.pool.size, .int .i64 c.pool.min, .int .i64 c.pool.pgs, .int .i64 c.pool.dom] 31)
  have hx := ibx_new w c
  have hg := h.keep hb
  obtain ⟨k, o, cl, n, a, b, p, d⟩ := c
  unfold IncV.val
  simp only at hb hx hg ⊢
  have HBB := Lib.hid hB
  obtain ⟨W, hW⟩ : ∃ W, w.alloc (.cells #[.int .i64 k, .int .i64 o, .int .i64 cl, .int .i64 n, .int .i64 a, .int .i64 b, .int .i64 p, .int .i64 d] 31) = W := ⟨_, rfl⟩
  rw [hW] at hb hg
  have hx2 : IBx W w.heap.size ⟨k, o, cl, n, ⟨a, b, p, d⟩⟩ := by rw [← hW]; exact hx
  have HB := Lib.hid hb; have HX := Lib.hid hx2; have HG := Lib.hid hg
  obtain ⟨-, -, vh, vp, vb, hm, -, -, hp, -⟩ := hg
  obtain ⟨ap, cp, rfl⟩ := hp.slice
  have HM := Lib.hid hm; have HP := Lib.hid hp
  obtain ⟨L, hL⟩ : ∃ L, m.pools.length = L := ⟨_, rfl⟩
  have HL := Lib.hid hL
  obtain ⟨l0, l1, l2, l3, l4⟩ := hm.cells
  rw [hL] at l3
  clear hx hx2 hb hB hm hp h l0 l1 l2 l4 hL
  have mixed : Tryz.prog.follows .mixedOrders = true := by kernel_rfl
  go_enter Tryz.func199, Tryz.ntmps199
  by_cases h2 : 2 ≤ L
  · have hE : Hid (poolE ⟨a, b, p, d⟩ m = (m, false)) := Lib.hid (by unfold poolE; rw [if_pos (by rw [HL.out]; exact h2)])
    go_wp2_with fail
    go_ret
    rw [hE.out]
    exact ⟨rfl, HG.out, Far.of HB.out HBB.out⟩
  · go_upto_region 3 with fail
    clear hW
    have HD := Lib.hid (below_drew (Below.refl W.heap.size W))
    have l3d := (((HM.out.keep HD.out).cells).2.2.2.1)
    rw [HL.out] at l3d
    obtain ⟨c0, c1, c2, c3, c4, c5, c6, c7⟩ := (HX.out.keep HD.out).cells
    simp only at c4 c5 c6 c7
    clear c0 c1 c2 c3 l3
    have HP2 := Lib.hid (show OwnP pc 4 29 (W.alloc (.cells #[.int .i64 a, .int .i64 b, .int .i64 p, .int .i64 d] 29)).drew B (.slice ap L cp) m.pools from by rw [← HL.out]; exact (HP.out.below HD.out).below (below_new _ _))
    have HS2 := Lib.hid (show Sl pc 4 (W.alloc (.cells #[.int .i64 a, .int .i64 b, .int .i64 p, .int .i64 d] 29)).drew (.slice (some ⟨W.heap.size, 0, none⟩) 1 1) [⟨a, b, p, d⟩] from sl_new pc_len W.drew ⟨a, b, p, d⟩ 29 W.heap.size rfl)
    have HG2 := Lib.hid (show SheetG (W.alloc (.cells #[.int .i64 a, .int .i64 b, .int .i64 p, .int .i64 d] 29)).drew B S g cap m from (HG.out.keep HD.out).keep (below_new W.drew (.cells #[.int .i64 a, .int .i64 b, .int .i64 p, .int .i64 d] 29)))
    have HM2 := Lib.hid (show MBox (W.alloc (.cells #[.int .i64 a, .int .i64 b, .int .i64 p, .int .i64 d] 29)).drew S 109 m.epoch vh (.slice (some ⟨g, 0, none⟩) m.osds.length cap) (.slice ap m.pools.length cp) vb from (HM.out.keep HD.out).keep (below_new W.drew (.cells #[.int .i64 a, .int .i64 b, .int .i64 p, .int .i64 d] 29)))
    have l3a := HM2.out.cells.2.2.2.1
    rw [HL.out] at l3a
    have HBU : Hid (In B (W.alloc (.cells #[.int .i64 a, .int .i64 b, .int .i64 p, .int .i64 d] 29)).drew) := Lib.hid (HBB.out.mono (by have h2 := HB.out.size; have h3 := HD.out.size; simp; omega))
    --R3
    refine wp_region_held_drew (S := fun _ => True) (by kernel_rfl) (trivial) (fun hHeld => ?_)
    refine wpAnyH_take (i := 0) (oi := { dst := some 12, op := Op.move (Operand.tmp 0), type := 110, pos := "sheet.go:89", after := #[], guard := none }) (v := ?_) rfl (by kernel_rfl) (by kernel_rfl) (by kernel_rfl) (fun _ _ _ h => h) (Or.inl ⟨by rfl, ?_⟩) hHeld ?_
    rotate_left 1
    · intro W hSw
      (try dsimp only at hSw)
      go_simp
      try with_reducible rfl
    try simp only [Act.put, List.setIfInBounds_toArray, List.set_cons_zero, List.set_cons_succ]
    refine wpAnyH_take (i := 1) (oi := { dst := some 13, op := Op.move (Operand.tmp 0), type := 110, pos := "sheet.go:89", after := #[], guard := none }) (v := ?_) rfl (by kernel_rfl) (by kernel_rfl) (by kernel_rfl) (fun _ _ _ h => h) (Or.inl ⟨by rfl, ?_⟩) hHeld ?_
    rotate_left 1
    · intro W hSw
      (try dsimp only at hSw)
      go_simp
      try with_reducible rfl
    try simp only [Act.put, List.setIfInBounds_toArray, List.set_cons_zero, List.set_cons_succ]
    refine wpAnyH_take (i := 2) (oi := { dst := some 14, op := Op.nilCheck (Operand.tmp 13), type := 0, pos := "sheet.go:89", after := #[{ on := 1, ground := Ground.data }], guard := none }) (v := ?_) rfl (by kernel_rfl) (by kernel_rfl) (by kernel_rfl) (fun _ _ _ h => h) (Or.inl ⟨by rfl, ?_⟩) hHeld ?_
    rotate_left 1
    · intro W hSw
      (try dsimp only at hSw)
      go_simp
      try with_reducible rfl
    try simp only [Act.put, List.setIfInBounds_toArray, List.set_cons_zero, List.set_cons_succ]
    refine wpAnyH_take (i := 3) (oi := { dst := some 15, op := Op.fieldAddr 109 (Operand.tmp 14) 0, type := 0, pos := "sheet.go:89", after := #[{ on := 2, ground := Ground.data }], guard := none }) (v := ?_) rfl (by kernel_rfl) (by kernel_rfl) (by kernel_rfl) (fun _ _ _ h => h) (Or.inl ⟨by rfl, ?_⟩) hHeld ?_
    rotate_left 1
    · intro W hSw
      (try dsimp only at hSw)
      go_simp
      try with_reducible rfl
    try simp only [Act.put, List.setIfInBounds_toArray, List.set_cons_zero, List.set_cons_succ]
    refine wpAnyH_take (i := 4) (oi := { dst := some 16, op := Op.fieldAddr 27 (Operand.tmp 15) 3, type := 0, pos := "sheet.go:89", after := #[{ on := 3, ground := Ground.data }], guard := none }) (v := ?_) rfl (by kernel_rfl) (by kernel_rfl) (by kernel_rfl) (fun _ _ _ h => h) (Or.inl ⟨by rfl, ?_⟩) hHeld ?_
    rotate_left 1
    · intro W hSw
      (try dsimp only at hSw)
      go_simp
      try with_reducible rfl
    try simp only [Act.put, List.setIfInBounds_toArray, List.set_cons_zero, List.set_cons_succ]
    refine wpAnyH_take (i := 6) (oi := { dst := some 18, op := Op.fieldAddr 31 (Operand.tmp 3) 4, type := 0, pos := "sheet.go:89", after := #[], guard := none }) (v := ?_) rfl (by kernel_rfl) (by kernel_rfl) (by kernel_rfl) (fun _ _ _ h => h) (Or.inl ⟨by rfl, ?_⟩) hHeld ?_
    rotate_left 1
    · intro W hSw
      (try dsimp only at hSw)
      go_simp
      try with_reducible rfl
    try simp only [Act.put, List.setIfInBounds_toArray, List.set_cons_zero, List.set_cons_succ]
    refine wpAnyH_ready (rs := [5, 7]) (by kernel_rfl) (by simp) ?_
    refine AllReadyH.cons (o := { dst := some 17, op := Op.load 24 (Operand.tmp 16), type := 24, pos := "sheet.go:89", after := #[{ on := 4, ground := Ground.data }], guard := none }) rfl (fun K7 hK7 => ?_) ?_
    · go_simp
      refine hK7.out _ _ (trivial) (fun hHeld => ?_)
      clear hK7 K7
      try simp only [Act.put, List.setIfInBounds_toArray, List.set_cons_zero, List.set_cons_succ]
      refine wpAnyH_ready (rs := [7]) (by kernel_rfl) (by simp) ?_
      refine AllReadyH.cons (o := { dst := some 19, op := Op.load 29 (Operand.tmp 18), type := 29, pos := "sheet.go:89", after := #[{ on := 6, ground := Ground.data }], guard := none }) rfl (fun K7 hK7 => ?_) ?_
      · go_simp
        refine hK7.out _ _ (trivial) (fun hHeld => ?_)
        clear hK7 K7
        try simp only [Act.put, List.setIfInBounds_toArray, List.set_cons_zero, List.set_cons_succ]
        refine wpAnyH_ready (rs := [8]) (by kernel_rfl) (by simp) ?_
        refine AllReadyH.cons (o := { dst := some 20, op := Op.buildSlice 24 1 #[(0, Operand.tmp 19)], type := 24, pos := "sheet.go:89", after := #[{ on := 7, ground := Ground.data }], guard := none }) rfl (fun K7 hK7 => ?_) ?_
        · go_simp
          refine hK7.out _ _ (trivial) (fun hHeld => ?_)
          clear hK7 K7
          try simp only [Act.put, List.setIfInBounds_toArray, List.set_cons_zero, List.set_cons_succ]
          refine wpAnyH_ready (rs := [9]) (by kernel_rfl) (by simp) ?_
          refine AllReadyH.cons (o := { dst := some 21, op := Op.call { callee := Callee.builtin Builtin.append, args := #[Operand.tmp 17, Operand.tmp 20], argTypes := #[24, 24] }, type := 24, pos := "sheet.go:89", after := #[{ on := 5, ground := Ground.data }, { on := 8, ground := Ground.data }], guard := none }) rfl (fun K7 hK7 => ?_) ?_
          · refine step_app1P pc_len pc_one (by decide) (.tmp 17) (.tmp 20) 24 rfl B 29 _ (by rfl) 32 Tryz.underlying24 infoPool (.slice ap L cp) m.pools rfl HP2.out _ ⟨a, b, p, d⟩ rfl HS2.out (by rw [HL.out]; unfold maxLen; omega) (by rw [HL.out]; omega) HBU.out ?_
            intro v5 w5 ho hk hgr
            obtain ⟨a5, cc5, rfl⟩ := ho.slice
            have HO5 := Lib.hid ho; have HK5 := Lib.hid hk; have HF5 := Lib.hid hgr
            have HX5 : Hid (MBox w5 S 109 m.epoch vh (.slice (some ⟨g, 0, none⟩) m.osds.length cap) (.slice ap m.pools.length cp) vb) := Lib.hid (hk.box (by decide) HM2.out)
            have s5 := HX5.out.cells.2.2.2.1
            have t5 := HX5.out.thaw 3
            clear ho hk hgr
            try dsimp only
            refine hK7.out _ _ (trivial) (fun hHeld => ?_)
            clear hK7 K7
            try simp only [Act.put, List.setIfInBounds_toArray, List.set_cons_zero, List.set_cons_succ]
            refine wpAnyH_take (i := 10) (oi := { dst := some 22, op := Op.nilCheck (Operand.tmp 12), type := 0, pos := "sheet.go:89", after := #[{ on := 0, ground := Ground.data }, { on := 0, ground := Ground.phase }, { on := 1, ground := Ground.phase }, { on := 2, ground := Ground.phase }, { on := 3, ground := Ground.phase }, { on := 4, ground := Ground.phase }, { on := 5, ground := Ground.phase }, { on := 6, ground := Ground.phase }, { on := 7, ground := Ground.phase }, { on := 8, ground := Ground.phase }, { on := 9, ground := Ground.phase }], guard := none }) (v := ?_) rfl (by kernel_rfl) (by kernel_rfl) (by kernel_rfl) (fun _ _ _ h => h) (Or.inl ⟨by rfl, ?_⟩) hHeld ?_
            rotate_left 1
            · intro W hSw
              (try dsimp only at hSw)
              go_simp
              try with_reducible rfl
            try simp only [Act.put, List.setIfInBounds_toArray, List.set_cons_zero, List.set_cons_succ]
            refine wpAnyH_take (i := 11) (oi := { dst := some 23, op := Op.fieldAddr 109 (Operand.tmp 22) 0, type := 0, pos := "sheet.go:89", after := #[{ on := 10, ground := Ground.data }, { on := 0, ground := Ground.phase }, { on := 1, ground := Ground.phase }, { on := 2, ground := Ground.phase }, { on := 3, ground := Ground.phase }, { on := 4, ground := Ground.phase }, { on := 5, ground := Ground.phase }, { on := 6, ground := Ground.phase }, { on := 7, ground := Ground.phase }, { on := 8, ground := Ground.phase }, { on := 9, ground := Ground.phase }], guard := none }) (v := ?_) rfl (by kernel_rfl) (by kernel_rfl) (by kernel_rfl) (fun _ _ _ h => h) (Or.inl ⟨by rfl, ?_⟩) hHeld ?_
            rotate_left 1
            · intro W hSw
              (try dsimp only at hSw)
              go_simp
              try with_reducible rfl
            try simp only [Act.put, List.setIfInBounds_toArray, List.set_cons_zero, List.set_cons_succ]
            refine wpAnyH_take (i := 12) (oi := { dst := some 24, op := Op.fieldAddr 27 (Operand.tmp 23) 3, type := 0, pos := "sheet.go:89", after := #[{ on := 11, ground := Ground.data }, { on := 0, ground := Ground.phase }, { on := 1, ground := Ground.phase }, { on := 2, ground := Ground.phase }, { on := 3, ground := Ground.phase }, { on := 4, ground := Ground.phase }, { on := 5, ground := Ground.phase }, { on := 6, ground := Ground.phase }, { on := 7, ground := Ground.phase }, { on := 8, ground := Ground.phase }, { on := 9, ground := Ground.phase }], guard := none }) (v := ?_) rfl (by kernel_rfl) (by kernel_rfl) (by kernel_rfl) (fun _ _ _ h => h) (Or.inl ⟨by rfl, ?_⟩) hHeld ?_
            rotate_left 1
            · intro W hSw
              (try dsimp only at hSw)
              go_simp
              try with_reducible rfl
            try simp only [Act.put, List.setIfInBounds_toArray, List.set_cons_zero, List.set_cons_succ]
            refine wpAnyH_ready (rs := [13]) (by kernel_rfl) (by simp) ?_
            refine AllReadyH.cons (o := { dst := none, op := Op.store 24 (Operand.tmp 24) (Operand.tmp 21), type := 0, pos := "sheet.go:89", after := #[{ on := 12, ground := Ground.data }, { on := 9, ground := Ground.data }, { on := 9, ground := Ground.chain }, { on := 0, ground := Ground.phase }, { on := 1, ground := Ground.phase }, { on := 2, ground := Ground.phase }, { on := 3, ground := Ground.phase }, { on := 4, ground := Ground.phase }, { on := 5, ground := Ground.phase }, { on := 6, ground := Ground.phase }, { on := 7, ground := Ground.phase }, { on := 8, ground := Ground.phase }, { on := 9, ground := Ground.phase }], guard := none }) rfl (fun K7 hK7 => ?_) ?_
            · go_simp
              refine hK7.out _ _ (trivial) (fun hHeld => ?_)
              clear hK7 K7
              try simp only [Act.put, List.setIfInBounds_toArray, List.set_cons_zero, List.set_cons_succ]
              refine wpAnyH_done (by kernel_rfl) ?_ _
              clear hHeld
              go_wp2_with fail
              go_ret
              have hE : poolE ⟨a, b, p, d⟩ m = (⟨m.epoch, m.hosts, m.osds, m.pools ++ [⟨a, b, p, d⟩], m.bans⟩, true) := by unfold poolE; rw [if_neg (by rw [HL.out]; exact h2)]
              rw [hE]
              have HO6 := HO5.out
              rw [List.length_append] at HO6
              exact ⟨rfl, HG2.out.pools HK5.out HO6, below_set1 (((Far.of HB.out HBB.out).trans (Far.of (show Below W.heap.size W (W.alloc (.cells #[.int .i64 a, .int .i64 b, .int .i64 p, .int .i64 d] 29)).drew from below_drew (below_new W _)) (HBB.out.mono HB.out.size))).trans HF5.out) HG2.out.1 _ _⟩
            exact AllReadyH.nil
          exact AllReadyH.nil
        exact AllReadyH.nil
      exact AllReadyH.nil
    refine AllReadyH.cons (o := { dst := some 19, op := Op.load 29 (Operand.tmp 18), type := 29, pos := "sheet.go:89", after := #[{ on := 6, ground := Ground.data }], guard := none }) rfl (fun K7 hK7 => ?_) ?_
    · go_simp
      refine hK7.out _ _ (trivial) (fun hHeld => ?_)
      clear hK7 K7
      try simp only [Act.put, List.setIfInBounds_toArray, List.set_cons_zero, List.set_cons_succ]
      refine wpAnyH_ready (rs := [5, 8]) (by kernel_rfl) (by simp) ?_
      refine AllReadyH.cons (o := { dst := some 17, op := Op.load 24 (Operand.tmp 16), type := 24, pos := "sheet.go:89", after := #[{ on := 4, ground := Ground.data }], guard := none }) rfl (fun K7 hK7 => ?_) ?_
      · go_simp
        refine hK7.out _ _ (trivial) (fun hHeld => ?_)
        clear hK7 K7
        try simp only [Act.put, List.setIfInBounds_toArray, List.set_cons_zero, List.set_cons_succ]
        refine wpAnyH_ready (rs := [8]) (by kernel_rfl) (by simp) ?_
        refine AllReadyH.cons (o := { dst := some 20, op := Op.buildSlice 24 1 #[(0, Operand.tmp 19)], type := 24, pos := "sheet.go:89", after := #[{ on := 7, ground := Ground.data }], guard := none }) rfl (fun K7 hK7 => ?_) ?_
        · go_simp
          refine hK7.out _ _ (trivial) (fun hHeld => ?_)
          clear hK7 K7
          try simp only [Act.put, List.setIfInBounds_toArray, List.set_cons_zero, List.set_cons_succ]
          refine wpAnyH_ready (rs := [9]) (by kernel_rfl) (by simp) ?_
          refine AllReadyH.cons (o := { dst := some 21, op := Op.call { callee := Callee.builtin Builtin.append, args := #[Operand.tmp 17, Operand.tmp 20], argTypes := #[24, 24] }, type := 24, pos := "sheet.go:89", after := #[{ on := 5, ground := Ground.data }, { on := 8, ground := Ground.data }], guard := none }) rfl (fun K7 hK7 => ?_) ?_
          · refine step_app1P pc_len pc_one (by decide) (.tmp 17) (.tmp 20) 24 rfl B 29 _ (by rfl) 32 Tryz.underlying24 infoPool (.slice ap L cp) m.pools rfl HP2.out _ ⟨a, b, p, d⟩ rfl HS2.out (by rw [HL.out]; unfold maxLen; omega) (by rw [HL.out]; omega) HBU.out ?_
            intro v5 w5 ho hk hgr
            obtain ⟨a5, cc5, rfl⟩ := ho.slice
            have HO5 := Lib.hid ho; have HK5 := Lib.hid hk; have HF5 := Lib.hid hgr
            have HX5 : Hid (MBox w5 S 109 m.epoch vh (.slice (some ⟨g, 0, none⟩) m.osds.length cap) (.slice ap m.pools.length cp) vb) := Lib.hid (hk.box (by decide) HM2.out)
            have s5 := HX5.out.cells.2.2.2.1
            have t5 := HX5.out.thaw 3
            clear ho hk hgr
            try dsimp only
            refine hK7.out _ _ (trivial) (fun hHeld => ?_)
            clear hK7 K7
            try simp only [Act.put, List.setIfInBounds_toArray, List.set_cons_zero, List.set_cons_succ]
            refine wpAnyH_take (i := 10) (oi := { dst := some 22, op := Op.nilCheck (Operand.tmp 12), type := 0, pos := "sheet.go:89", after := #[{ on := 0, ground := Ground.data }, { on := 0, ground := Ground.phase }, { on := 1, ground := Ground.phase }, { on := 2, ground := Ground.phase }, { on := 3, ground := Ground.phase }, { on := 4, ground := Ground.phase }, { on := 5, ground := Ground.phase }, { on := 6, ground := Ground.phase }, { on := 7, ground := Ground.phase }, { on := 8, ground := Ground.phase }, { on := 9, ground := Ground.phase }], guard := none }) (v := ?_) rfl (by kernel_rfl) (by kernel_rfl) (by kernel_rfl) (fun _ _ _ h => h) (Or.inl ⟨by rfl, ?_⟩) hHeld ?_
            rotate_left 1
            · intro W hSw
              (try dsimp only at hSw)
              go_simp
              try with_reducible rfl
            try simp only [Act.put, List.setIfInBounds_toArray, List.set_cons_zero, List.set_cons_succ]
            refine wpAnyH_take (i := 11) (oi := { dst := some 23, op := Op.fieldAddr 109 (Operand.tmp 22) 0, type := 0, pos := "sheet.go:89", after := #[{ on := 10, ground := Ground.data }, { on := 0, ground := Ground.phase }, { on := 1, ground := Ground.phase }, { on := 2, ground := Ground.phase }, { on := 3, ground := Ground.phase }, { on := 4, ground := Ground.phase }, { on := 5, ground := Ground.phase }, { on := 6, ground := Ground.phase }, { on := 7, ground := Ground.phase }, { on := 8, ground := Ground.phase }, { on := 9, ground := Ground.phase }], guard := none }) (v := ?_) rfl (by kernel_rfl) (by kernel_rfl) (by kernel_rfl) (fun _ _ _ h => h) (Or.inl ⟨by rfl, ?_⟩) hHeld ?_
            rotate_left 1
            · intro W hSw
              (try dsimp only at hSw)
              go_simp
              try with_reducible rfl
            try simp only [Act.put, List.setIfInBounds_toArray, List.set_cons_zero, List.set_cons_succ]
            refine wpAnyH_take (i := 12) (oi := { dst := some 24, op := Op.fieldAddr 27 (Operand.tmp 23) 3, type := 0, pos := "sheet.go:89", after := #[{ on := 11, ground := Ground.data }, { on := 0, ground := Ground.phase }, { on := 1, ground := Ground.phase }, { on := 2, ground := Ground.phase }, { on := 3, ground := Ground.phase }, { on := 4, ground := Ground.phase }, { on := 5, ground := Ground.phase }, { on := 6, ground := Ground.phase }, { on := 7, ground := Ground.phase }, { on := 8, ground := Ground.phase }, { on := 9, ground := Ground.phase }], guard := none }) (v := ?_) rfl (by kernel_rfl) (by kernel_rfl) (by kernel_rfl) (fun _ _ _ h => h) (Or.inl ⟨by rfl, ?_⟩) hHeld ?_
            rotate_left 1
            · intro W hSw
              (try dsimp only at hSw)
              go_simp
              try with_reducible rfl
            try simp only [Act.put, List.setIfInBounds_toArray, List.set_cons_zero, List.set_cons_succ]
            refine wpAnyH_ready (rs := [13]) (by kernel_rfl) (by simp) ?_
            refine AllReadyH.cons (o := { dst := none, op := Op.store 24 (Operand.tmp 24) (Operand.tmp 21), type := 0, pos := "sheet.go:89", after := #[{ on := 12, ground := Ground.data }, { on := 9, ground := Ground.data }, { on := 9, ground := Ground.chain }, { on := 0, ground := Ground.phase }, { on := 1, ground := Ground.phase }, { on := 2, ground := Ground.phase }, { on := 3, ground := Ground.phase }, { on := 4, ground := Ground.phase }, { on := 5, ground := Ground.phase }, { on := 6, ground := Ground.phase }, { on := 7, ground := Ground.phase }, { on := 8, ground := Ground.phase }, { on := 9, ground := Ground.phase }], guard := none }) rfl (fun K7 hK7 => ?_) ?_
            · go_simp
              refine hK7.out _ _ (trivial) (fun hHeld => ?_)
              clear hK7 K7
              try simp only [Act.put, List.setIfInBounds_toArray, List.set_cons_zero, List.set_cons_succ]
              refine wpAnyH_done (by kernel_rfl) ?_ _
              clear hHeld
              go_wp2_with fail
              go_ret
              have hE : poolE ⟨a, b, p, d⟩ m = (⟨m.epoch, m.hosts, m.osds, m.pools ++ [⟨a, b, p, d⟩], m.bans⟩, true) := by unfold poolE; rw [if_neg (by rw [HL.out]; exact h2)]
              rw [hE]
              have HO6 := HO5.out
              rw [List.length_append] at HO6
              exact ⟨rfl, HG2.out.pools HK5.out HO6, below_set1 (((Far.of HB.out HBB.out).trans (Far.of (show Below W.heap.size W (W.alloc (.cells #[.int .i64 a, .int .i64 b, .int .i64 p, .int .i64 d] 29)).drew from below_drew (below_new W _)) (HBB.out.mono HB.out.size))).trans HF5.out) HG2.out.1 _ _⟩
            exact AllReadyH.nil
          exact AllReadyH.nil
        exact AllReadyH.nil
      refine AllReadyH.cons (o := { dst := some 20, op := Op.buildSlice 24 1 #[(0, Operand.tmp 19)], type := 24, pos := "sheet.go:89", after := #[{ on := 7, ground := Ground.data }], guard := none }) rfl (fun K7 hK7 => ?_) ?_
      · go_simp
        refine hK7.out _ _ (trivial) (fun hHeld => ?_)
        clear hK7 K7
        try simp only [Act.put, List.setIfInBounds_toArray, List.set_cons_zero, List.set_cons_succ]
        refine wpAnyH_ready (rs := [5]) (by kernel_rfl) (by simp) ?_
        refine AllReadyH.cons (o := { dst := some 17, op := Op.load 24 (Operand.tmp 16), type := 24, pos := "sheet.go:89", after := #[{ on := 4, ground := Ground.data }], guard := none }) rfl (fun K7 hK7 => ?_) ?_
        · go_simp
          refine hK7.out _ _ (trivial) (fun hHeld => ?_)
          clear hK7 K7
          try simp only [Act.put, List.setIfInBounds_toArray, List.set_cons_zero, List.set_cons_succ]
          refine wpAnyH_ready (rs := [9]) (by kernel_rfl) (by simp) ?_
          refine AllReadyH.cons (o := { dst := some 21, op := Op.call { callee := Callee.builtin Builtin.append, args := #[Operand.tmp 17, Operand.tmp 20], argTypes := #[24, 24] }, type := 24, pos := "sheet.go:89", after := #[{ on := 5, ground := Ground.data }, { on := 8, ground := Ground.data }], guard := none }) rfl (fun K7 hK7 => ?_) ?_
          · refine step_app1P pc_len pc_one (by decide) (.tmp 17) (.tmp 20) 24 rfl B 29 _ (by rfl) 32 Tryz.underlying24 infoPool (.slice ap L cp) m.pools rfl HP2.out _ ⟨a, b, p, d⟩ rfl HS2.out (by rw [HL.out]; unfold maxLen; omega) (by rw [HL.out]; omega) HBU.out ?_
            intro v5 w5 ho hk hgr
            obtain ⟨a5, cc5, rfl⟩ := ho.slice
            have HO5 := Lib.hid ho; have HK5 := Lib.hid hk; have HF5 := Lib.hid hgr
            have HX5 : Hid (MBox w5 S 109 m.epoch vh (.slice (some ⟨g, 0, none⟩) m.osds.length cap) (.slice ap m.pools.length cp) vb) := Lib.hid (hk.box (by decide) HM2.out)
            have s5 := HX5.out.cells.2.2.2.1
            have t5 := HX5.out.thaw 3
            clear ho hk hgr
            try dsimp only
            refine hK7.out _ _ (trivial) (fun hHeld => ?_)
            clear hK7 K7
            try simp only [Act.put, List.setIfInBounds_toArray, List.set_cons_zero, List.set_cons_succ]
            refine wpAnyH_take (i := 10) (oi := { dst := some 22, op := Op.nilCheck (Operand.tmp 12), type := 0, pos := "sheet.go:89", after := #[{ on := 0, ground := Ground.data }, { on := 0, ground := Ground.phase }, { on := 1, ground := Ground.phase }, { on := 2, ground := Ground.phase }, { on := 3, ground := Ground.phase }, { on := 4, ground := Ground.phase }, { on := 5, ground := Ground.phase }, { on := 6, ground := Ground.phase }, { on := 7, ground := Ground.phase }, { on := 8, ground := Ground.phase }, { on := 9, ground := Ground.phase }], guard := none }) (v := ?_) rfl (by kernel_rfl) (by kernel_rfl) (by kernel_rfl) (fun _ _ _ h => h) (Or.inl ⟨by rfl, ?_⟩) hHeld ?_
            rotate_left 1
            · intro W hSw
              (try dsimp only at hSw)
              go_simp
              try with_reducible rfl
            try simp only [Act.put, List.setIfInBounds_toArray, List.set_cons_zero, List.set_cons_succ]
            refine wpAnyH_take (i := 11) (oi := { dst := some 23, op := Op.fieldAddr 109 (Operand.tmp 22) 0, type := 0, pos := "sheet.go:89", after := #[{ on := 10, ground := Ground.data }, { on := 0, ground := Ground.phase }, { on := 1, ground := Ground.phase }, { on := 2, ground := Ground.phase }, { on := 3, ground := Ground.phase }, { on := 4, ground := Ground.phase }, { on := 5, ground := Ground.phase }, { on := 6, ground := Ground.phase }, { on := 7, ground := Ground.phase }, { on := 8, ground := Ground.phase }, { on := 9, ground := Ground.phase }], guard := none }) (v := ?_) rfl (by kernel_rfl) (by kernel_rfl) (by kernel_rfl) (fun _ _ _ h => h) (Or.inl ⟨by rfl, ?_⟩) hHeld ?_
            rotate_left 1
            · intro W hSw
              (try dsimp only at hSw)
              go_simp
              try with_reducible rfl
            try simp only [Act.put, List.setIfInBounds_toArray, List.set_cons_zero, List.set_cons_succ]
            refine wpAnyH_take (i := 12) (oi := { dst := some 24, op := Op.fieldAddr 27 (Operand.tmp 23) 3, type := 0, pos := "sheet.go:89", after := #[{ on := 11, ground := Ground.data }, { on := 0, ground := Ground.phase }, { on := 1, ground := Ground.phase }, { on := 2, ground := Ground.phase }, { on := 3, ground := Ground.phase }, { on := 4, ground := Ground.phase }, { on := 5, ground := Ground.phase }, { on := 6, ground := Ground.phase }, { on := 7, ground := Ground.phase }, { on := 8, ground := Ground.phase }, { on := 9, ground := Ground.phase }], guard := none }) (v := ?_) rfl (by kernel_rfl) (by kernel_rfl) (by kernel_rfl) (fun _ _ _ h => h) (Or.inl ⟨by rfl, ?_⟩) hHeld ?_
            rotate_left 1
            · intro W hSw
              (try dsimp only at hSw)
              go_simp
              try with_reducible rfl
            try simp only [Act.put, List.setIfInBounds_toArray, List.set_cons_zero, List.set_cons_succ]
            refine wpAnyH_ready (rs := [13]) (by kernel_rfl) (by simp) ?_
            refine AllReadyH.cons (o := { dst := none, op := Op.store 24 (Operand.tmp 24) (Operand.tmp 21), type := 0, pos := "sheet.go:89", after := #[{ on := 12, ground := Ground.data }, { on := 9, ground := Ground.data }, { on := 9, ground := Ground.chain }, { on := 0, ground := Ground.phase }, { on := 1, ground := Ground.phase }, { on := 2, ground := Ground.phase }, { on := 3, ground := Ground.phase }, { on := 4, ground := Ground.phase }, { on := 5, ground := Ground.phase }, { on := 6, ground := Ground.phase }, { on := 7, ground := Ground.phase }, { on := 8, ground := Ground.phase }, { on := 9, ground := Ground.phase }], guard := none }) rfl (fun K7 hK7 => ?_) ?_
            · go_simp
              refine hK7.out _ _ (trivial) (fun hHeld => ?_)
              clear hK7 K7
              try simp only [Act.put, List.setIfInBounds_toArray, List.set_cons_zero, List.set_cons_succ]
              refine wpAnyH_done (by kernel_rfl) ?_ _
              clear hHeld
              go_wp2_with fail
              go_ret
              have hE : poolE ⟨a, b, p, d⟩ m = (⟨m.epoch, m.hosts, m.osds, m.pools ++ [⟨a, b, p, d⟩], m.bans⟩, true) := by unfold poolE; rw [if_neg (by rw [HL.out]; exact h2)]
              rw [hE]
              have HO6 := HO5.out
              rw [List.length_append] at HO6
              exact ⟨rfl, HG2.out.pools HK5.out HO6, below_set1 (((Far.of HB.out HBB.out).trans (Far.of (show Below W.heap.size W (W.alloc (.cells #[.int .i64 a, .int .i64 b, .int .i64 p, .int .i64 d] 29)).drew from below_drew (below_new W _)) (HBB.out.mono HB.out.size))).trans HF5.out) HG2.out.1 _ _⟩
            exact AllReadyH.nil
          exact AllReadyH.nil
        exact AllReadyH.nil
      exact AllReadyH.nil
    exact AllReadyH.nil
    --R3E
end Go.Proofs.YtoeklnmmnmmjeaaGreat.crush

namespace Go.Proofs.YtoeklnmmnmmjeaaGreat.crush
open Go.RowKit
open Go.Proofs.YtoeklnmmnmmjeaaGreat.kit Go.Proofs.YtoeklnmmnmmjeaaGreat.own
set_option linter.unusedVariables false

set_option maxHeartbeats 16000000 in
set_option maxRecDepth 100000 in
theorem change5_any (c : IncV) (hk : c.kind = 5) (hok : okInc c = true) (B : Nat → Prop) (S g cap : Nat) (m : MapV) (w : World) (h : SheetG w B S g cap m) (hB : In B w) :
    Calls Tryz.prog 163 #[.pointer (some ⟨S, 0, none⟩), c.val] w (StO B S g cap (poolE c.pool m) w) := by
  have HIn := Lib.hid (fun u => Inc_any c u)
  rw [hok] at HIn
  have HBo := Lib.hid (fun u (hu : Below w.heap.size w u) => pool_any c B S g cap m u (h.keep hu) (hB.mono hu.size))
  obtain ⟨k, o, cl, n, a, b, p, d⟩ := c
  simp only at hk
  subst hk
  unfold IncV.val at HIn HBo ⊢
  simp only at HIn HBo ⊢
  have hb := below_new w (.cells #[.int .i64 5, .int .i64 o, .int .i64 cl, .int .i64 n, .int .i64 a, .int .i64 b, .int .i64 p, .int .i64 d] 31)
  have hx := ibx_new w ⟨5, o, cl, n, ⟨a, b, p, d⟩⟩
  have hmf : ∀ (fn : Fn) (first cap : Array Value) (w : World), (Instr.makeFunc fn first cap).run Tryz.prog w = .ok (.func fn first cap) w := fun _ _ _ _ => rfl
  have mixed : Tryz.prog.follows .mixedOrders = true := by kernel_rfl
  obtain ⟨R, hR⟩ : ∃ R, poolE ⟨a, b, p, d⟩ m = R := ⟨_, rfl⟩
  rw [hR] at HBo ⊢
  clear hR
  have HB := Lib.hid hb; have HX := Lib.hid hx; have HBB := Lib.hid hB
  clear hok h hB hb hx
  go_enter Tryz.func163, Tryz.ntmps163
  have HT := Lib.hid (deed_there (w.alloc (.cells #[.int .i64 5, .int .i64 o, .int .i64 cl, .int .i64 n, .int .i64 a, .int .i64 b, .int .i64 p, .int .i64 d] 31)))
  have HDs := Lib.hid (deed_set (w.alloc (.cells #[.int .i64 5, .int .i64 o, .int .i64 cl, .int .i64 n, .int .i64 a, .int .i64 b, .int .i64 p, .int .i64 d] 31)) S)
  have HBd := Lib.hid (deed_below (w.alloc (.cells #[.int .i64 5, .int .i64 o, .int .i64 cl, .int .i64 n, .int .i64 a, .int .i64 b, .int .i64 p, .int .i64 d] 31)) S)
  rw [World.size_alloc] at HT HDs HBd
  go_upto_region 2 with (refine wpList_store_mid rfl 246 _ _ rfl (w.heap.size + 1) 0 (deedA S) rfl rfl HT.out sizeDeed (deed_one S) ?_)
  have HX2 := Lib.hid (HX.out.keep (by rw [World.size_alloc]; exact HBd.out))
  have HB2 := Lib.hid (HB.out.trans (HBd.out.mono (by omega)))
  generalize World.setCells _ (w.heap.size + 1) 0 (deedA S).toList = W at HDs HX2 HB2 ⊢
  have HXd := Lib.hid (HX2.out.keep (below_drew (Below.refl _ _)))
  have HDd := Lib.hid (HDs.out.keep (below_drew (Below.refl _ _)))
  have HBw := Lib.hid (below_drew HB2.out)
  obtain ⟨c0, c1, c2, c3, c4, c5, c6, c7⟩ := HXd.out.cells
  simp only at c0 c1 c2 c3 c4 c5 c6 c7
  clear HT HBd HX HB HX2 HB2 HDs
  refine wp_region_held_drew (S := fun _ => True) (by kernel_rfl) (trivial) (fun hHeld => ?_)
  refine wpAnyH_ready (rs := [0]) (by kernel_rfl) (by simp) ?_
  refine AllReadyH.cons (o := { dst := some 19, op := Op.load 31 (Operand.tmp 3), type := 31, pos := "sheet.go:30", after := #[], guard := none }) rfl (fun K7 hK7 => ?_) ?_
  · go_simp
    refine hK7.out _ _ (trivial) (fun hHeld => ?_)
    clear hK7 K7
    try simp only [Act.put, List.setIfInBounds_toArray, List.set_cons_zero, List.set_cons_succ]
    refine wpAnyH_ready (rs := [1]) (by kernel_rfl) (by simp) ?_
    refine AllReadyH.cons (o := { dst := some 20, op := Op.call { callee := Callee.value (Operand.func 20), args := #[Operand.tmp 19], argTypes := #[31] }, type := 4, pos := "sheet.go:30", after := #[{ on := 0, ground := Ground.data }], guard := none }) rfl (fun K7 hK7 => ?_) ?_
    · go_simp
      refine (HIn.out _).mono ?_
      rintro e w5 ⟨rfl, hb⟩
      have HB5 := Lib.hid (HBw.out.trans (hb.mono HBw.out.size))
      have HX5 := Lib.hid (HXd.out.keep hb)
      have HD5 := Lib.hid (HDd.out.keep hb)
      clear hb c0 c1 c2 c3 c4 c5 c6 c7
      obtain ⟨c0, c1, c2, c3, c4, c5, c6, c7⟩ := HX5.out.cells
      simp only at c0 c1 c2 c3 c4 c5 c6 c7
      have d0 := HD5.out.at5
      try dsimp only
      refine hK7.out _ _ (trivial) (fun hHeld => ?_)
      clear hK7 K7
      try simp only [Act.put, List.setIfInBounds_toArray, List.set_cons_zero, List.set_cons_succ]
      refine wpAnyH_take (i := 2) (oi := { dst := some 21, op := Op.move (Operand.tmp 20), type := 4, pos := "sheet.go:30", after := #[{ on := 1, ground := Ground.data }, { on := 1, ground := Ground.chain }], guard := none }) (v := ?_) rfl (by kernel_rfl) (by kernel_rfl) (by kernel_rfl) (fun _ _ _ h => h) (Or.inl ⟨by rfl, ?_⟩) hHeld ?_
      rotate_left 1
      · intro W hSw
        (try dsimp only at hSw)
        go_simp
        try with_reducible rfl
      try simp only [Act.put, List.setIfInBounds_toArray, List.set_cons_zero, List.set_cons_succ]
      refine wpAnyH_take (i := 3) (oi := { dst := some 22, op := Op.fieldAddr 31 (Operand.tmp 3) 0, type := 0, pos := "sheet.go:30", after := #[{ on := 2, ground := Ground.guard }], guard := some (2, true) }) (v := ?_) rfl (by kernel_rfl) (by kernel_rfl) (by kernel_rfl) (fun _ _ _ h => h) (Or.inl ⟨by rfl, ?_⟩) hHeld ?_
      rotate_left 1
      · intro W hSw
        (try dsimp only at hSw)
        go_simp
        try with_reducible rfl
      try simp only [Act.put, List.setIfInBounds_toArray, List.set_cons_zero, List.set_cons_succ]
      refine wpAnyH_ready (rs := [4, 7]) (by kernel_rfl) (by simp) ?_
      refine AllReadyH.cons (o := { dst := some 23, op := Op.load 3 (Operand.tmp 22), type := 3, pos := "sheet.go:30", after := #[{ on := 3, ground := Ground.data }, { on := 2, ground := Ground.guard }], guard := some (2, true) }) rfl (fun K7 hK7 => ?_) ?_
      · go_simp
        refine hK7.out _ _ (trivial) (fun hHeld => ?_)
        clear hK7 K7
        try simp only [Act.put, List.setIfInBounds_toArray, List.set_cons_zero, List.set_cons_succ]
        refine wpAnyH_take (i := 5) (oi := { dst := some 24, op := Op.indexAddr 246 (Operand.tmp 5) (Operand.tmp 23), type := 0, pos := "sheet.go:30", after := #[{ on := 4, ground := Ground.data }, { on := 2, ground := Ground.guard }], guard := some (2, true) }) (v := ?_) rfl (by kernel_rfl) (by kernel_rfl) (by kernel_rfl) (fun _ _ _ h => h) (Or.inl ⟨by rfl, ?_⟩) hHeld ?_
        rotate_left 1
        · intro W hSw
          (try dsimp only at hSw)
          go_simp
          try with_reducible rfl
        try simp only [Act.put, List.setIfInBounds_toArray, List.set_cons_zero, List.set_cons_succ]
        refine wpAnyH_ready (rs := [6, 7]) (by kernel_rfl) (by simp) ?_
        refine AllReadyH.cons (o := { dst := some 25, op := Op.load 40 (Operand.tmp 24), type := 40, pos := "sheet.go:30", after := #[{ on := 5, ground := Ground.data }, { on := 2, ground := Ground.guard }], guard := some (2, true) }) rfl (fun K7 hK7 => ?_) ?_
        · go_simp
          refine hK7.out _ _ (trivial) (fun hHeld => ?_)
          clear hK7 K7
          try simp only [Act.put, List.setIfInBounds_toArray, List.set_cons_zero, List.set_cons_succ]
          refine wpAnyH_ready (rs := [7]) (by kernel_rfl) (by simp) ?_
          refine AllReadyH.cons (o := { dst := some 26, op := Op.load 31 (Operand.tmp 3), type := 31, pos := "sheet.go:30", after := #[{ on := 2, ground := Ground.guard }], guard := some (2, true) }) rfl (fun K7 hK7 => ?_) ?_
          · go_simp
            refine hK7.out _ _ (trivial) (fun hHeld => ?_)
            clear hK7 K7
            try simp only [Act.put, List.setIfInBounds_toArray, List.set_cons_zero, List.set_cons_succ]
            refine wpAnyH_ready (rs := [8]) (by kernel_rfl) (by simp) ?_
            refine AllReadyH.cons (o := { dst := some 27, op := Op.call { callee := Callee.value (Operand.tmp 25), args := #[Operand.tmp 26], argTypes := #[31] }, type := 4, pos := "sheet.go:30", after := #[{ on := 6, ground := Ground.data }, { on := 7, ground := Ground.data }, { on := 2, ground := Ground.chain }, { on := 2, ground := Ground.guard }], guard := some (2, true) }) rfl (fun K7 hK7 => ?_) ?_
            · go_simp
              refine (HBo.out _ HB5.out).mono ?_
              rintro e w6 ⟨rfl, hg, hb⟩
              have HG6 := Lib.hid hg
              have HB6 := Lib.hid ((Far.of HB5.out HBB.out).trans hb)
              clear hg hb
              try dsimp only
              refine hK7.out _ _ (trivial) (fun hHeld => ?_)
              clear hK7 K7
              try simp only [Act.put, List.setIfInBounds_toArray, List.set_cons_zero, List.set_cons_succ]
              refine wpAnyH_take (i := 9) (oi := { dst := some 28, op := Op.pick (Operand.tmp 21) (Operand.tmp 27) (Operand.const (Value.bool false)), type := 4, pos := "sheet.go:30", after := #[{ on := 2, ground := Ground.data }, { on := 8, ground := Ground.data }], guard := none }) (v := ?_) rfl (by kernel_rfl) (by kernel_rfl) (by kernel_rfl) (fun _ _ _ h => h) (Or.inl ⟨by rfl, ?_⟩) hHeld ?_
              rotate_left 1
              · intro W hSw
                (try dsimp only at hSw)
                go_simp
                try with_reducible rfl
              try simp only [Act.put, List.setIfInBounds_toArray, List.set_cons_zero, List.set_cons_succ]
              refine wpAnyH_take (i := 10) (oi := { dst := some 4, op := Op.assign (Operand.tmp 28), type := 4, pos := "sheet.go:30", after := #[{ on := 9, ground := Ground.data }, { on := 8, ground := Ground.chain }, { on := 0, ground := Ground.phase }, { on := 1, ground := Ground.phase }, { on := 2, ground := Ground.phase }, { on := 3, ground := Ground.phase }, { on := 4, ground := Ground.phase }, { on := 5, ground := Ground.phase }, { on := 6, ground := Ground.phase }, { on := 7, ground := Ground.phase }, { on := 8, ground := Ground.phase }, { on := 9, ground := Ground.phase }], guard := none }) (v := ?_) rfl (by kernel_rfl) (by kernel_rfl) (by kernel_rfl) (fun _ _ _ h => h) (Or.inl ⟨by rfl, ?_⟩) hHeld ?_
              rotate_left 1
              · intro W hSw
                (try dsimp only at hSw)
                go_simp
                try with_reducible rfl
              try simp only [Act.put, List.setIfInBounds_toArray, List.set_cons_zero, List.set_cons_succ]
              refine wpAnyH_done (by kernel_rfl) ?_ _
              go_wp2
              go_ret
              exact ⟨rfl, HG6.out, HB6.out⟩
            exact AllReadyH.nil
          exact AllReadyH.nil
        refine AllReadyH.cons (o := { dst := some 26, op := Op.load 31 (Operand.tmp 3), type := 31, pos := "sheet.go:30", after := #[{ on := 2, ground := Ground.guard }], guard := some (2, true) }) rfl (fun K7 hK7 => ?_) ?_
        · go_simp
          refine hK7.out _ _ (trivial) (fun hHeld => ?_)
          clear hK7 K7
          try simp only [Act.put, List.setIfInBounds_toArray, List.set_cons_zero, List.set_cons_succ]
          refine wpAnyH_ready (rs := [6]) (by kernel_rfl) (by simp) ?_
          refine AllReadyH.cons (o := { dst := some 25, op := Op.load 40 (Operand.tmp 24), type := 40, pos := "sheet.go:30", after := #[{ on := 5, ground := Ground.data }, { on := 2, ground := Ground.guard }], guard := some (2, true) }) rfl (fun K7 hK7 => ?_) ?_
          · go_simp
            refine hK7.out _ _ (trivial) (fun hHeld => ?_)
            clear hK7 K7
            try simp only [Act.put, List.setIfInBounds_toArray, List.set_cons_zero, List.set_cons_succ]
            refine wpAnyH_ready (rs := [8]) (by kernel_rfl) (by simp) ?_
            refine AllReadyH.cons (o := { dst := some 27, op := Op.call { callee := Callee.value (Operand.tmp 25), args := #[Operand.tmp 26], argTypes := #[31] }, type := 4, pos := "sheet.go:30", after := #[{ on := 6, ground := Ground.data }, { on := 7, ground := Ground.data }, { on := 2, ground := Ground.chain }, { on := 2, ground := Ground.guard }], guard := some (2, true) }) rfl (fun K7 hK7 => ?_) ?_
            · go_simp
              refine (HBo.out _ HB5.out).mono ?_
              rintro e w6 ⟨rfl, hg, hb⟩
              have HG6 := Lib.hid hg
              have HB6 := Lib.hid ((Far.of HB5.out HBB.out).trans hb)
              clear hg hb
              try dsimp only
              refine hK7.out _ _ (trivial) (fun hHeld => ?_)
              clear hK7 K7
              try simp only [Act.put, List.setIfInBounds_toArray, List.set_cons_zero, List.set_cons_succ]
              refine wpAnyH_take (i := 9) (oi := { dst := some 28, op := Op.pick (Operand.tmp 21) (Operand.tmp 27) (Operand.const (Value.bool false)), type := 4, pos := "sheet.go:30", after := #[{ on := 2, ground := Ground.data }, { on := 8, ground := Ground.data }], guard := none }) (v := ?_) rfl (by kernel_rfl) (by kernel_rfl) (by kernel_rfl) (fun _ _ _ h => h) (Or.inl ⟨by rfl, ?_⟩) hHeld ?_
              rotate_left 1
              · intro W hSw
                (try dsimp only at hSw)
                go_simp
                try with_reducible rfl
              try simp only [Act.put, List.setIfInBounds_toArray, List.set_cons_zero, List.set_cons_succ]
              refine wpAnyH_take (i := 10) (oi := { dst := some 4, op := Op.assign (Operand.tmp 28), type := 4, pos := "sheet.go:30", after := #[{ on := 9, ground := Ground.data }, { on := 8, ground := Ground.chain }, { on := 0, ground := Ground.phase }, { on := 1, ground := Ground.phase }, { on := 2, ground := Ground.phase }, { on := 3, ground := Ground.phase }, { on := 4, ground := Ground.phase }, { on := 5, ground := Ground.phase }, { on := 6, ground := Ground.phase }, { on := 7, ground := Ground.phase }, { on := 8, ground := Ground.phase }, { on := 9, ground := Ground.phase }], guard := none }) (v := ?_) rfl (by kernel_rfl) (by kernel_rfl) (by kernel_rfl) (fun _ _ _ h => h) (Or.inl ⟨by rfl, ?_⟩) hHeld ?_
              rotate_left 1
              · intro W hSw
                (try dsimp only at hSw)
                go_simp
                try with_reducible rfl
              try simp only [Act.put, List.setIfInBounds_toArray, List.set_cons_zero, List.set_cons_succ]
              refine wpAnyH_done (by kernel_rfl) ?_ _
              go_wp2
              go_ret
              exact ⟨rfl, HG6.out, HB6.out⟩
            exact AllReadyH.nil
          exact AllReadyH.nil
        exact AllReadyH.nil
      refine AllReadyH.cons (o := { dst := some 26, op := Op.load 31 (Operand.tmp 3), type := 31, pos := "sheet.go:30", after := #[{ on := 2, ground := Ground.guard }], guard := some (2, true) }) rfl (fun K7 hK7 => ?_) ?_
      · go_simp
        refine hK7.out _ _ (trivial) (fun hHeld => ?_)
        clear hK7 K7
        try simp only [Act.put, List.setIfInBounds_toArray, List.set_cons_zero, List.set_cons_succ]
        refine wpAnyH_ready (rs := [4]) (by kernel_rfl) (by simp) ?_
        refine AllReadyH.cons (o := { dst := some 23, op := Op.load 3 (Operand.tmp 22), type := 3, pos := "sheet.go:30", after := #[{ on := 3, ground := Ground.data }, { on := 2, ground := Ground.guard }], guard := some (2, true) }) rfl (fun K7 hK7 => ?_) ?_
        · go_simp
          refine hK7.out _ _ (trivial) (fun hHeld => ?_)
          clear hK7 K7
          try simp only [Act.put, List.setIfInBounds_toArray, List.set_cons_zero, List.set_cons_succ]
          refine wpAnyH_take (i := 5) (oi := { dst := some 24, op := Op.indexAddr 246 (Operand.tmp 5) (Operand.tmp 23), type := 0, pos := "sheet.go:30", after := #[{ on := 4, ground := Ground.data }, { on := 2, ground := Ground.guard }], guard := some (2, true) }) (v := ?_) rfl (by kernel_rfl) (by kernel_rfl) (by kernel_rfl) (fun _ _ _ h => h) (Or.inl ⟨by rfl, ?_⟩) hHeld ?_
          rotate_left 1
          · intro W hSw
            (try dsimp only at hSw)
            go_simp
            try with_reducible rfl
          try simp only [Act.put, List.setIfInBounds_toArray, List.set_cons_zero, List.set_cons_succ]
          refine wpAnyH_ready (rs := [6]) (by kernel_rfl) (by simp) ?_
          refine AllReadyH.cons (o := { dst := some 25, op := Op.load 40 (Operand.tmp 24), type := 40, pos := "sheet.go:30", after := #[{ on := 5, ground := Ground.data }, { on := 2, ground := Ground.guard }], guard := some (2, true) }) rfl (fun K7 hK7 => ?_) ?_
          · go_simp
            refine hK7.out _ _ (trivial) (fun hHeld => ?_)
            clear hK7 K7
            try simp only [Act.put, List.setIfInBounds_toArray, List.set_cons_zero, List.set_cons_succ]
            refine wpAnyH_ready (rs := [8]) (by kernel_rfl) (by simp) ?_
            refine AllReadyH.cons (o := { dst := some 27, op := Op.call { callee := Callee.value (Operand.tmp 25), args := #[Operand.tmp 26], argTypes := #[31] }, type := 4, pos := "sheet.go:30", after := #[{ on := 6, ground := Ground.data }, { on := 7, ground := Ground.data }, { on := 2, ground := Ground.chain }, { on := 2, ground := Ground.guard }], guard := some (2, true) }) rfl (fun K7 hK7 => ?_) ?_
            · go_simp
              refine (HBo.out _ HB5.out).mono ?_
              rintro e w6 ⟨rfl, hg, hb⟩
              have HG6 := Lib.hid hg
              have HB6 := Lib.hid ((Far.of HB5.out HBB.out).trans hb)
              clear hg hb
              try dsimp only
              refine hK7.out _ _ (trivial) (fun hHeld => ?_)
              clear hK7 K7
              try simp only [Act.put, List.setIfInBounds_toArray, List.set_cons_zero, List.set_cons_succ]
              refine wpAnyH_take (i := 9) (oi := { dst := some 28, op := Op.pick (Operand.tmp 21) (Operand.tmp 27) (Operand.const (Value.bool false)), type := 4, pos := "sheet.go:30", after := #[{ on := 2, ground := Ground.data }, { on := 8, ground := Ground.data }], guard := none }) (v := ?_) rfl (by kernel_rfl) (by kernel_rfl) (by kernel_rfl) (fun _ _ _ h => h) (Or.inl ⟨by rfl, ?_⟩) hHeld ?_
              rotate_left 1
              · intro W hSw
                (try dsimp only at hSw)
                go_simp
                try with_reducible rfl
              try simp only [Act.put, List.setIfInBounds_toArray, List.set_cons_zero, List.set_cons_succ]
              refine wpAnyH_take (i := 10) (oi := { dst := some 4, op := Op.assign (Operand.tmp 28), type := 4, pos := "sheet.go:30", after := #[{ on := 9, ground := Ground.data }, { on := 8, ground := Ground.chain }, { on := 0, ground := Ground.phase }, { on := 1, ground := Ground.phase }, { on := 2, ground := Ground.phase }, { on := 3, ground := Ground.phase }, { on := 4, ground := Ground.phase }, { on := 5, ground := Ground.phase }, { on := 6, ground := Ground.phase }, { on := 7, ground := Ground.phase }, { on := 8, ground := Ground.phase }, { on := 9, ground := Ground.phase }], guard := none }) (v := ?_) rfl (by kernel_rfl) (by kernel_rfl) (by kernel_rfl) (fun _ _ _ h => h) (Or.inl ⟨by rfl, ?_⟩) hHeld ?_
              rotate_left 1
              · intro W hSw
                (try dsimp only at hSw)
                go_simp
                try with_reducible rfl
              try simp only [Act.put, List.setIfInBounds_toArray, List.set_cons_zero, List.set_cons_succ]
              refine wpAnyH_done (by kernel_rfl) ?_ _
              go_wp2
              go_ret
              exact ⟨rfl, HG6.out, HB6.out⟩
            exact AllReadyH.nil
          exact AllReadyH.nil
        exact AllReadyH.nil
      exact AllReadyH.nil
    exact AllReadyH.nil
  exact AllReadyH.nil
end Go.Proofs.YtoeklnmmnmmjeaaGreat.crush

namespace Go.Proofs.YtoeklnmmnmmjeaaGreat.crush
open Go.RowKit
open Go.Proofs.YtoeklnmmnmmjeaaGreat.kit Go.Proofs.YtoeklnmmnmmjeaaGreat.own
set_option linter.unusedVariables false

/-- -1, 0 or 1. -/
def cmp3 (a b : Int) : Int := if a < b then -1 else if b < a then 1 else 0

set_option maxHeartbeats 1000000 in
theorem nan_int (a : Int) (w : World) : Calls Tryz.prog 190 #[.int .i64 a] w fun e w' => e = .returned (.bool false) ∧ w = w' := by
  go_enter Tryz.func190, Tryz.ntmps190
  go_wp2
  go_ret
  exact ⟨by simp, rfl⟩

set_option maxHeartbeats 1000000 in
theorem cmp_int (a b : Int) (w : World) : Calls Tryz.prog 151 #[.int .i64 a, .int .i64 b] w fun e w' => e = .returned (.int .i64 (cmp3 a b)) ∧ w = w' := by
  unfold cmp3
  by_cases h1 : a < b
  · rw [if_pos h1]
    go_enter Tryz.func151, Tryz.ntmps151
    go_wp2_with (go_at_call 190; refine (nan_int _ _).mono ?_; rintro e w' ⟨rfl, rfl⟩)
    go_ret
    exact ⟨rfl, rfl⟩
  rw [if_neg h1]
  by_cases h2 : b < a
  · rw [if_pos h2]
    go_enter Tryz.func151, Tryz.ntmps151
    go_wp2_with (go_at_call 190; refine (nan_int _ _).mono ?_; rintro e w' ⟨rfl, rfl⟩)
    go_ret
    exact ⟨rfl, rfl⟩
  · rw [if_neg h2]
    go_enter Tryz.func151, Tryz.ntmps151
    go_wp2_with (go_at_call 190; refine (nan_int _ _).mono ?_; rintro e w' ⟨rfl, rfl⟩)
    go_ret
    exact ⟨rfl, rfl⟩

set_option maxHeartbeats 1000000 in
theorem nan_i64 (a : Int) (w : World) : Calls Tryz.prog 191 #[.int .i64 a] w fun e w' => e = .returned (.bool false) ∧ w = w' := by
  go_enter Tryz.func191, Tryz.ntmps191
  go_wp2
  go_ret
  exact ⟨by simp, rfl⟩

set_option maxHeartbeats 1000000 in
theorem cmp_i64 (a b : Int) (w : World) : Calls Tryz.prog 152 #[.int .i64 a, .int .i64 b] w fun e w' => e = .returned (.int .i64 (cmp3 a b)) ∧ w = w' := by
  unfold cmp3
  by_cases h1 : a < b
  · rw [if_pos h1]
    go_enter Tryz.func152, Tryz.ntmps152
    go_wp2_with (go_at_call 191; refine (nan_i64 _ _).mono ?_; rintro e w' ⟨rfl, rfl⟩)
    go_ret
    exact ⟨rfl, rfl⟩
  rw [if_neg h1]
  by_cases h2 : b < a
  · rw [if_pos h2]
    go_enter Tryz.func152, Tryz.ntmps152
    go_wp2_with (go_at_call 191; refine (nan_i64 _ _).mono ?_; rintro e w' ⟨rfl, rfl⟩)
    go_ret
    exact ⟨rfl, rfl⟩
  · rw [if_neg h2]
    go_enter Tryz.func152, Tryz.ntmps152
    go_wp2_with (go_at_call 191; refine (nan_i64 _ _).mono ?_; rintro e w' ⟨rfl, rfl⟩)
    go_ret
    exact ⟨rfl, rfl⟩

/-- The first of two that is not 0. -/
def first2 (x y : Int) : Int := if x = 0 then y else x
set_option maxHeartbeats 4000000 in
set_option maxRecDepth 100000 in
theorem or2 (b : Nat) (x0 x1 : Int) (w : World) (h0 : w.cell? ⟨b, 0, none⟩ = some (.int .i64 x0)) (h1 : w.cell? ⟨b, 1, none⟩ = some (.int .i64 x1)) :
    Calls Tryz.prog 150 #[.slice (some ⟨b, 0, none⟩) 2 2] w fun e w' => e = .returned (.int .i64 (first2 x0 x1)) ∧ w = w' := by
  by_cases z0 : x0 = 0
  · by_cases z1 : x1 = 0
    · subst z0; subst z1
      go_enter Tryz.func150, Tryz.ntmps150
      go_wp2
      refine wp_loop_rounds 3 ?_
      rw [rounds_succ]; go_wp2
      rw [rounds_succ]; go_wp2
      rw [rounds_succ]; go_wp2
      go_ret
      exact ⟨rfl, rfl⟩
    · subst z0
      have d : True → (x1 != 0) = true := fun _ => by simp [z1]
      have HE := Lib.hid (show first2 0 x1 = x1 by simp [first2])
      rw [HE.out]
      go_enter Tryz.func150, Tryz.ntmps150
      go_wp2
      refine wp_loop_rounds 2 ?_
      rw [rounds_succ]; go_wp2
      rw [rounds_succ]; go_wp2
      go_ret
      exact ⟨rfl, rfl⟩
  · have d : True → (x0 != 0) = true := fun _ => by simp [z0]
    have HE := Lib.hid (show first2 x0 x1 = x0 by simp [first2, z0])
    rw [HE.out]
    go_enter Tryz.func150, Tryz.ntmps150
    go_wp2
    refine wp_loop_rounds 1 ?_
    rw [rounds_succ]; go_wp2
    go_ret
    exact ⟨rfl, rfl⟩

theorem or2_new (W : World) (T : TypeId) (x0 x1 : Int) : Calls Tryz.prog 150 #[.slice (some ⟨W.heap.size, 0, none⟩) 2 2] (W.alloc (.cells #[.int .i64 x0, .int .i64 x1] T)).drew
    fun e w' => e = .returned (.int .i64 (first2 x0 x1)) ∧ (W.alloc (.cells #[.int .i64 x0, .int .i64 x1] T)).drew = w' := by
  have h : ((W.alloc (.cells #[.int .i64 x0, .int .i64 x1] T)).drew).heap[W.heap.size]? = some (.cells #[.int .i64 x0, .int .i64 x1] T (0, 0)) := heap_alloc_last W _
  exact or2 W.heap.size x0 x1 _ (by simp only [World.cell?, h]; rfl) (by simp only [World.cell?, h]; rfl)


/-- The order of bans. -/
def ordB (a b : BanV) : Int := first2 (cmp3 a.client b.client) (cmp3 a.inst b.inst)
def TwoB (M N : Nat) (x y : BanV) (W u : World) : Prop := Below W.heap.size W u ∧ u.heap[M]? = some (.cells (bc x).toArray 93 (0, 0)) ∧ u.heap[N]? = some (.cells (bc y).toArray 93 (0, 0))
theorem keepB {M N : Nat} {x y : BanV} {W u v : World} (h : TwoB M N x y W u) (hb : Below u.heap.size u v) : TwoB M N x y W v := by
  obtain ⟨h0, h1, h2⟩ := h
  exact ⟨h0.trans (hb.mono h0.size), (hb.block M (Array.getElem?_eq_some_iff.1 h1).1).trans h1, (hb.block N (Array.getElem?_eq_some_iff.1 h2).1).trans h2⟩
theorem bbox_at {u : World} {M T : Nat} {x : BanV} (h : u.heap[M]? = some (.cells (bc x).toArray T (0, 0))) : u.cell? ⟨M, 0, none⟩ = some (.int .i64 x.client) ∧ u.cell? ⟨M, 1, none⟩ = some (.int .i64 x.inst) := by
  constructor <;> · simp only [World.cell?, h]; rfl

open Go.Sort in
set_option maxHeartbeats 4000000 in
set_option maxRecDepth 100000 in
theorem orderBans_any (x y : BanV) (w : World) :
    Calls Tryz.prog 116 #[.agg (bc x).toArray, .agg (bc y).toArray] w fun e w' => e = .returned (.int .i64 (ordB x y)) ∧ Below w.heap.size w w' := by
  have h2 : TwoB w.heap.size (w.heap.size + 1) x y ((w.alloc (.cells (bc x).toArray 93)).alloc (.cells (bc y).toArray 93)) ((w.alloc (.cells (bc x).toArray 93)).alloc (.cells (bc y).toArray 93)) := by
    refine ⟨Below.refl _ _, ?_, ?_⟩
    · exact ((below_new (w.alloc (.cells (bc x).toArray 93)) (.cells (bc y).toArray 93)).block _ (by simp)).trans (alloc_at w _)
    · have := alloc_at (w.alloc (.cells (bc x).toArray 93)) (.cells (bc y).toArray 93)
      rwa [World.size_alloc] at this
  have hg : Below w.heap.size w ((w.alloc (.cells (bc x).toArray 93)).alloc (.cells (bc y).toArray 93)) := (below_new w _).alloc (by simp) _
  obtain ⟨xi, xw⟩ := x
  obtain ⟨yi, yw⟩ := y
  have HO := Lib.hid (show ordB ⟨xi, xw⟩ ⟨yi, yw⟩ = first2 (cmp3 xi yi) (cmp3 xw yw) from rfl)
  simp only [bc] at h2 hg ⊢
  go_enter Tryz.func116, Tryz.ntmps116
  go_upto_region 1 with fail
  generalize (w.alloc (.cells #[.int .i64 xi, .int .i64 xw] 93)).alloc (.cells #[.int .i64 yi, .int .i64 yw] 93) = W at h2 hg ⊢
  have HG := Lib.hid hg
  clear hg
  generalize w.heap.size + 1 = N at h2 ⊢
  obtain ⟨M, hM⟩ : ∃ M, w.heap.size = M := ⟨_, rfl⟩
  have HM := Lib.hid hM
  rw [hM] at h2 ⊢
  clear hM
  have H2 : Hid (TwoB M N ⟨xi, xw⟩ ⟨yi, yw⟩ W W) := Lib.hid h2
  clear h2
  have H3 := Lib.hid (keepB H2.out (below_drew (Below.refl _ W)))
  have H4 := Lib.hid (keepB H2.out (below_drew (below_new W (.cells #[.int .i64 (cmp3 xi yi), .int .i64 (cmp3 xw yw)] 3))))
  obtain ⟨c0, c1⟩ := bbox_at H3.out.2.1
  obtain ⟨d0, d1⟩ := bbox_at H3.out.2.2
  obtain ⟨f0, f1⟩ := bbox_at H4.out.2.1
  obtain ⟨g0, g1⟩ := bbox_at H4.out.2.2
  simp only at c0 c1 d0 d1 f0 f1 g0 g1
  go_region_held3 (fun u => u.cell? ⟨M, 0, none⟩ = some (.int .i64 xi) ∧ u.cell? ⟨M, 1, none⟩ = some (.int .i64 xw) ∧ u.cell? ⟨N, 0, none⟩ = some (.int .i64 yi) ∧ u.cell? ⟨N, 1, none⟩ = some (.int .i64 yw))
    (first
      | exact ⟨c0, c1, d0, d1⟩
      | exact ⟨f0, f1, g0, g1⟩)
    (first
      | (go_at_call 152; refine (cmp_i64 _ _ _).mono ?_; rintro e w1 ⟨rfl, rfl⟩)
      | (go_at_call 151; refine (cmp_int _ _ _).mono ?_; rintro e w1 ⟨rfl, rfl⟩)
      | (go_at_call 150; refine (or2_new _ _ _ _).mono ?_; rintro e w1 ⟨rfl, rfl⟩))
  have HB2 := Lib.hid (show Below w.heap.size w ((W.alloc (.cells #[.int .i64 (cmp3 xi yi), .int .i64 (cmp3 xw yw)] 3)).drew) from below_drew (HG.out.alloc HG.out.size _))
  go_wp2
  go_ret
  exact ⟨by rw [HO.out]; rfl, HB2.out⟩
end Go.Proofs.YtoeklnmmnmmjeaaGreat.crush

namespace Go.Proofs.YtoeklnmmnmmjeaaGreat.crush
open Go.RowKit
open Go.Proofs.YtoeklnmmnmmjeaaGreat.kit Go.Proofs.YtoeklnmmnmmjeaaGreat.own
set_option linter.unusedVariables false
set_option linter.unusedSimpArgs false

theorem ordB_lt (a b : BanV) : decide (ordB a b < 0) = ltBan a b := by
  unfold ordB first2 cmp3 ltBan
  by_cases h1 : a.client < b.client
  · simp [h1]
  · by_cases h2 : b.client < a.client
    · have h3 : ¬ a.client = b.client := by omega
      simp [h1, h2, h3]
    · have h3 : a.client = b.client := by omega
      by_cases h4 : a.inst < b.inst
      · simp [h1, h2, h3, h4]
      · by_cases h5 : b.inst < a.inst
        · simp [h1, h2, h3, h4, h5]
        · simp [h1, h2, h3, h4, h5]
theorem okBansF_false {l : List BanV} {j : Nat} (h : okBansF l j = false) : ∀ k, j ≤ k → okBansF l k = false := by
  intro k hk
  induction k with
  | zero => obtain rfl : j = 0 := by omega
            exact h
  | succ k ih =>
    rcases Nat.lt_or_ge k j with h1 | h1
    · obtain rfl : j = k + 1 := by omega
      exact h
    · unfold okBansF; rw [ih h1]; rfl
theorem okBansF_step {l : List BanV} {k : Nat} (hk : k < l.length) : okBansF l (k + 1) = (okBansF l k && (okBan l[k].client l[k].inst && (decide (k = 0) || decide (ordB (l.getD (k - 1) ⟨0, 0⟩) l[k] < 0)))) := by
  rw [ordB_lt]
  rw [okBansF, List.getD_eq_getElem?_getD, List.getElem?_eq_getElem hk, Option.getD_some]

set_option maxHeartbeats 8000000 in
set_option maxRecDepth 100000 in
theorem fitBans_any (v : Value) (xs : List BanV) (w : World) (h : Sl bc 2 w v xs) : Calls Tryz.prog 62 #[v] w fun e w' => e = .returned (.bool (okBans xs)) ∧ Below w.heap.size w w' := by
  obtain ⟨hl, a, c, rfl, -, hc⟩ := h
  have HC := Lib.hid hc
  have HNo : Hid (∀ k, k < xs.length → okBansF xs (k + 1) = false → okBans xs = false) := Lib.hid (fun k hk h => by unfold okBans; rw [okBansF_false h _ hk]; rfl)
  have HYes : Hid (okBansF xs xs.length = true → okBans xs = decide (xs.length ≤ 64)) := Lib.hid (fun h => by unfold okBans; rw [h]; rfl)
  have HSt : Hid (∀ k (hk : k < xs.length), okBansF xs (k + 1) = (okBansF xs k && (okBan xs[k].client xs[k].inst && (decide (k = 0) || decide (ordB (xs.getD (k - 1) ⟨0, 0⟩) xs[k] < 0))))) := Lib.hid (fun k hk => okBansF_step hk)
  have HF := Lib.hid (fun c n u => fitBan_any c n u)
  have HOr := Lib.hid (fun x y u => orderBans_any x y u)
  simp only [bc] at HOr
  have hZ : okBansF xs 0 = true := rfl
  have HZ := Lib.hid hZ
  clear hZ
  generalize okBans xs = R at HNo HYes ⊢
  obtain ⟨L, hL⟩ : ∃ L, xs.length = L := ⟨_, rfl⟩
  have HL := Lib.hid hL
  rw [hL] at hl HYes ⊢
  clear hc hL
  go_enter Tryz.func62, Tryz.ntmps62
  go_wp2
  go_loopw [7] (fun vi wr => ∃ k : Nat, k ≤ L ∧ vi = .int .i64 k ∧ Hid (okBansF xs k = true) ∧ Below w.heap.size w wr) (fun i _ => L - (intOf i).toNat)
  case atStart => exact ⟨0, by omega, rfl, HZ, Below.refl _ _⟩
  case round =>
    obtain ⟨k, hk, rfl, HN, hbw⟩ := hrel
    have HB := Lib.hid hbw
    clear hbw
    by_cases hlt : k < L
    · have hlt' : (k : Int) < L := by omega
      have hk0 : (0 : Int) ≤ k := by omega
      have hi : k < xs.length := by rw [HL.out]; exact hlt
      obtain ⟨b, off, rfl, hbl, hcell⟩ := HC.out (by omega)
      have HBl := Lib.hid hbl
      have HCe := Lib.hid hcell
      obtain ⟨x, hx⟩ : ∃ x, xs[k] = x := ⟨_, rfl⟩
      have hst := HSt.out k hi
      rw [hx, HN.out, Bool.true_and] at hst
      have hd := range_keep (hcell k hi) hbl HB.out
      rw [hx] at hd
      obtain ⟨xc, xn⟩ := x
      have d0 : _ = some (Value.int .i64 xc) := hd 0 _ rfl
      have d1 : _ = some (Value.int .i64 xn) := hd 1 _ rfl
      simp only [Nat.add_zero] at d0
      have HX := Lib.hid hx
      have HBx := Lib.hid (below_new wr (.cells #[.int .i64 xc, .int .i64 xn] 93))
      have HAt := Lib.hid (alloc_at wr (.cells #[.int .i64 xc, .int .i64 xn] 93))
      have HBu := Lib.hid (HB.out.trans (HBx.out.mono HB.out.size))
      have hF := HF.out xc xn
      obtain ⟨q1, hq1⟩ : ∃ q, okBan xc xn = q := ⟨_, rfl⟩
      rw [hq1] at hF
      simp only at hst
      rw [hq1] at hst
      have HF1 := Lib.hid hF
      have HSt1 := Lib.hid hst
      clear hd hx hF hst hq1 hcell hbl
      obtain ⟨W, hW⟩ : ∃ W, wr.alloc (.cells #[.int .i64 xc, .int .i64 xn] 93) = W := ⟨_, rfl⟩
      obtain ⟨M, hM⟩ : ∃ M, wr.heap.size = M := ⟨_, rfl⟩
      have HBm : Hid (∀ u, Below W.heap.size W u → u.cell? ⟨M, 0, none⟩ = some (.int .i64 xc) ∧ u.cell? ⟨M, 1, none⟩ = some (.int .i64 xn)) := Lib.hid (fun u hu => by
        have h1 := HAt.out
        rw [hW, hM] at h1
        exact bbox_at (x := ⟨xc, xn⟩) ((hu.block M (Array.getElem?_eq_some_iff.1 h1).1).trans h1))
      have HBw := HBu
      rw [hW] at HBw
      have HD := Lib.hid (below_drew (Below.refl W.heap.size W))
      have HRo : Hid (∀ j (hj : j < xs.length) u, Below W.heap.size W u → u.rangeAt b (off + j * 2) (bc xs[j])) := Lib.hid (fun j hj u hu => range_keep (HCe.out j hj) HBl.out (HBw.out.trans (hu.mono HBw.out.size)))
      cases q1 with
      | false =>
        have HR := Lib.hid (HNo.out k hi (by rw [HSt1.out]; rfl))
        clear HRo
        go_upto_region 4 with fail
        clear hM hW d0 d1
        --R4F
        refine wp_region_held_drew (S := fun u => u.cell? ⟨M, 0, none⟩ = some (.int .i64 xc) ∧ u.cell? ⟨M, 1, none⟩ = some (.int .i64 xn)) (by kernel_rfl) (HBm.out _ HD.out) (fun hHeld => ?_)
        refine wpAnyH_take (i := 0) (oi := { dst := some 12, op := Op.load 93 (Operand.tmp 4), type := 93, pos := "fit.go:49", after := #[], guard := none }) (v := ?_) rfl (by kernel_rfl) (by kernel_rfl) (by kernel_rfl) (fun _ _ _ h => h) (Or.inl ⟨by rfl, ?_⟩) hHeld ?_
        rotate_left 1
        · intro W hSw
          (try dsimp only at hSw)
          go_simp
          try with_reducible rfl
        try simp only [Act.put, List.setIfInBounds_toArray, List.set_cons_zero, List.set_cons_succ]
        refine wpAnyH_ready (rs := [1]) (by kernel_rfl) (by simp) ?_
        refine AllReadyH.cons (o := { dst := some 13, op := Op.call { callee := Callee.value (Operand.func 75), args := #[Operand.tmp 12], argTypes := #[93] }, type := 4, pos := "fit.go:49", after := #[{ on := 0, ground := Ground.data }], guard := none }) rfl (fun K7 hK7 => ?_) ?_
        · go_simp
          refine (HF1.out _).mono ?_
          rintro e w1 ⟨rfl, hb⟩
          have HB1 : Hid (Below W.heap.size W w1) := Lib.hid (HD.out.trans (hb.mono HD.out.size))
          clear hb
          try dsimp only
          refine hK7.out _ _ (HBm.out _ HB1.out) (fun hHeld => ?_)
          clear hK7 K7
          try simp only [Act.put, List.setIfInBounds_toArray, List.set_cons_zero, List.set_cons_succ]
          refine wpAnyH_take (i := 2) (oi := { dst := some 14, op := Op.unOp UnOp.not 4 (Operand.tmp 13), type := 4, pos := "fit.go:49", after := #[{ on := 1, ground := Ground.data }], guard := none }) (v := ?_) rfl (by kernel_rfl) (by kernel_rfl) (by kernel_rfl) (fun _ _ _ h => h) (Or.inl ⟨by rfl, ?_⟩) hHeld ?_
          rotate_left 1
          · intro W hSw
            (try dsimp only at hSw)
            go_simp
            try with_reducible rfl
          try simp only [Act.put, List.setIfInBounds_toArray, List.set_cons_zero, List.set_cons_succ]
          refine wpAnyH_take (i := 3) (oi := { dst := some 15, op := Op.move (Operand.tmp 14), type := 4, pos := "fit.go:49", after := #[{ on := 2, ground := Ground.data }, { on := 1, ground := Ground.chain }], guard := none }) (v := ?_) rfl (by kernel_rfl) (by kernel_rfl) (by kernel_rfl) (fun _ _ _ h => h) (Or.inl ⟨by rfl, ?_⟩) hHeld ?_
          rotate_left 1
          · intro W hSw
            (try dsimp only at hSw)
            go_simp
            try with_reducible rfl
          try simp only [Act.put, List.setIfInBounds_toArray, List.set_cons_zero, List.set_cons_succ]
          refine wpAnyH_take (i := 4) (oi := { dst := some 16, op := Op.move (Operand.tmp 3), type := 3, pos := "fit.go:49", after := #[{ on := 3, ground := Ground.guard }], guard := some (3, false) }) (v := undef) rfl (by kernel_rfl) (by kernel_rfl) (by kernel_rfl) (fun _ _ _ h => h) (Or.inr ⟨by rfl, rfl⟩) hHeld ?_
          try simp only [Act.put, List.setIfInBounds_toArray, List.set_cons_zero, List.set_cons_succ]
          refine wpAnyH_take (i := 5) (oi := { dst := some 17, op := Op.binOp BinOp.gtr 3 (Operand.tmp 16) (Operand.const (Value.int IntKind.i64 0)) 3, type := 4, pos := "fit.go:49", after := #[{ on := 4, ground := Ground.data }, { on := 3, ground := Ground.guard }], guard := some (3, false) }) (v := undef) rfl (by kernel_rfl) (by kernel_rfl) (by kernel_rfl) (fun _ _ _ h => h) (Or.inr ⟨by rfl, rfl⟩) hHeld ?_
          try simp only [Act.put, List.setIfInBounds_toArray, List.set_cons_zero, List.set_cons_succ]
          refine wpAnyH_take (i := 6) (oi := { dst := some 18, op := Op.move (Operand.tmp 17), type := 4, pos := "fit.go:49", after := #[{ on := 5, ground := Ground.data }, { on := 3, ground := Ground.chain }, { on := 3, ground := Ground.guard }], guard := some (3, false) }) (v := undef) rfl (by kernel_rfl) (by kernel_rfl) (by kernel_rfl) (fun _ _ _ h => h) (Or.inr ⟨by rfl, rfl⟩) hHeld ?_
          try simp only [Act.put, List.setIfInBounds_toArray, List.set_cons_zero, List.set_cons_succ]
          refine wpAnyH_take (i := 7) (oi := { dst := some 19, op := Op.move (Operand.tmp 0), type := 25, pos := "fit.go:49", after := #[{ on := 6, ground := Ground.guard }], guard := some (6, true) }) (v := undef) rfl (by kernel_rfl) (by kernel_rfl) (by kernel_rfl) (fun _ _ _ h => h) (Or.inr ⟨by rfl, rfl⟩) hHeld ?_
          try simp only [Act.put, List.setIfInBounds_toArray, List.set_cons_zero, List.set_cons_succ]
          refine wpAnyH_take (i := 8) (oi := { dst := some 20, op := Op.move (Operand.tmp 3), type := 3, pos := "fit.go:49", after := #[{ on := 6, ground := Ground.guard }], guard := some (6, true) }) (v := undef) rfl (by kernel_rfl) (by kernel_rfl) (by kernel_rfl) (fun _ _ _ h => h) (Or.inr ⟨by rfl, rfl⟩) hHeld ?_
          try simp only [Act.put, List.setIfInBounds_toArray, List.set_cons_zero, List.set_cons_succ]
          refine wpAnyH_take (i := 9) (oi := { dst := some 21, op := Op.binOp BinOp.sub 3 (Operand.tmp 20) (Operand.const (Value.int IntKind.i64 1)) 3, type := 3, pos := "fit.go:49", after := #[{ on := 8, ground := Ground.data }, { on := 6, ground := Ground.guard }], guard := some (6, true) }) (v := undef) rfl (by kernel_rfl) (by kernel_rfl) (by kernel_rfl) (fun _ _ _ h => h) (Or.inr ⟨by rfl, rfl⟩) hHeld ?_
          try simp only [Act.put, List.setIfInBounds_toArray, List.set_cons_zero, List.set_cons_succ]
          refine wpAnyH_take (i := 10) (oi := { dst := some 22, op := Op.indexAddr 25 (Operand.tmp 19) (Operand.tmp 21), type := 0, pos := "fit.go:49", after := #[{ on := 7, ground := Ground.data }, { on := 9, ground := Ground.data }, { on := 6, ground := Ground.guard }], guard := some (6, true) }) (v := undef) rfl (by kernel_rfl) (by kernel_rfl) (by kernel_rfl) (fun _ _ _ h => h) (Or.inr ⟨by rfl, rfl⟩) hHeld ?_
          try simp only [Act.put, List.setIfInBounds_toArray, List.set_cons_zero, List.set_cons_succ]
          refine wpAnyH_take (i := 11) (oi := { dst := some 23, op := Op.load 93 (Operand.tmp 22), type := 93, pos := "fit.go:49", after := #[{ on := 10, ground := Ground.data }, { on := 6, ground := Ground.guard }], guard := some (6, true) }) (v := undef) rfl (by kernel_rfl) (by kernel_rfl) (by kernel_rfl) (fun _ _ _ h => h) (Or.inr ⟨by rfl, rfl⟩) hHeld ?_
          try simp only [Act.put, List.setIfInBounds_toArray, List.set_cons_zero, List.set_cons_succ]
          refine wpAnyH_take (i := 12) (oi := { dst := some 24, op := Op.load 93 (Operand.tmp 4), type := 93, pos := "fit.go:49", after := #[{ on := 6, ground := Ground.guard }], guard := some (6, true) }) (v := undef) rfl (by kernel_rfl) (by kernel_rfl) (by kernel_rfl) (fun _ _ _ h => h) (Or.inr ⟨by rfl, rfl⟩) hHeld ?_
          try simp only [Act.put, List.setIfInBounds_toArray, List.set_cons_zero, List.set_cons_succ]
          refine wpAnyH_take (i := 13) (oi := { dst := some 25, op := Op.call { callee := Callee.value (Operand.func 116), args := #[Operand.tmp 23, Operand.tmp 24], argTypes := #[93, 93] }, type := 3, pos := "fit.go:49", after := #[{ on := 11, ground := Ground.data }, { on := 12, ground := Ground.data }, { on := 6, ground := Ground.chain }, { on := 6, ground := Ground.guard }], guard := some (6, true) }) (v := undef) rfl (by kernel_rfl) (by kernel_rfl) (by kernel_rfl) (fun _ _ _ h => h) (Or.inr ⟨by rfl, rfl⟩) hHeld ?_
          try simp only [Act.put, List.setIfInBounds_toArray, List.set_cons_zero, List.set_cons_succ]
          refine wpAnyH_take (i := 14) (oi := { dst := some 26, op := Op.binOp BinOp.geq 3 (Operand.tmp 25) (Operand.const (Value.int IntKind.i64 0)) 3, type := 4, pos := "fit.go:49", after := #[{ on := 13, ground := Ground.data }, { on := 6, ground := Ground.guard }], guard := some (6, true) }) (v := undef) rfl (by kernel_rfl) (by kernel_rfl) (by kernel_rfl) (fun _ _ _ h => h) (Or.inr ⟨by rfl, rfl⟩) hHeld ?_
          try simp only [Act.put, List.setIfInBounds_toArray, List.set_cons_zero, List.set_cons_succ]
          refine wpAnyH_take (i := 15) (oi := { dst := some 27, op := Op.pick (Operand.tmp 18) (Operand.tmp 26) (Operand.const (Value.bool false)), type := 4, pos := "fit.go:49", after := #[{ on := 6, ground := Ground.data }, { on := 14, ground := Ground.data }, { on := 3, ground := Ground.guard }], guard := some (3, false) }) (v := undef) rfl (by kernel_rfl) (by kernel_rfl) (by kernel_rfl) (fun _ _ _ h => h) (Or.inr ⟨by rfl, rfl⟩) hHeld ?_
          try simp only [Act.put, List.setIfInBounds_toArray, List.set_cons_zero, List.set_cons_succ]
          refine wpAnyH_take (i := 16) (oi := { dst := some 28, op := Op.pick (Operand.tmp 15) (Operand.const (Value.bool true)) (Operand.tmp 27), type := 4, pos := "fit.go:49", after := #[{ on := 3, ground := Ground.data }, { on := 15, ground := Ground.data }], guard := none }) (v := ?_) rfl (by kernel_rfl) (by kernel_rfl) (by kernel_rfl) (fun _ _ _ h => h) (Or.inl ⟨by rfl, ?_⟩) hHeld ?_
          rotate_left 1
          · intro W hSw
            (try dsimp only at hSw)
            go_simp
            try with_reducible rfl
          try simp only [Act.put, List.setIfInBounds_toArray, List.set_cons_zero, List.set_cons_succ]
          refine wpAnyH_done (by kernel_rfl) ?_ _
          have HB9 := Lib.hid (HBw.out.trans (HB1.out.mono HBw.out.size))
          clear hHeld
          go_wp2
          go_ret
          exact ⟨by rw [HR.out]; rfl, HB9.out⟩
        exact AllReadyH.nil
        --R4FE
      | true =>
        rw [Bool.true_and] at HSt1
        cases k with
        | zero =>
          have HN2 : Hid (okBansF xs 1 = true) := Lib.hid (by rw [HSt1.out]; rfl)
          clear HRo
          simp only [Nat.zero_mul, Nat.add_zero] at d0 d1
          go_upto_region 4 with fail
          clear hM hW d0 d1
          --R4Z
          refine wp_region_held_drew (S := fun u => u.cell? ⟨M, 0, none⟩ = some (.int .i64 xc) ∧ u.cell? ⟨M, 1, none⟩ = some (.int .i64 xn)) (by kernel_rfl) (HBm.out _ HD.out) (fun hHeld => ?_)
          refine wpAnyH_take (i := 0) (oi := { dst := some 12, op := Op.load 93 (Operand.tmp 4), type := 93, pos := "fit.go:49", after := #[], guard := none }) (v := ?_) rfl (by kernel_rfl) (by kernel_rfl) (by kernel_rfl) (fun _ _ _ h => h) (Or.inl ⟨by rfl, ?_⟩) hHeld ?_
          rotate_left 1
          · intro W hSw
            (try dsimp only at hSw)
            go_simp
            try with_reducible rfl
          try simp only [Act.put, List.setIfInBounds_toArray, List.set_cons_zero, List.set_cons_succ]
          refine wpAnyH_ready (rs := [1]) (by kernel_rfl) (by simp) ?_
          refine AllReadyH.cons (o := { dst := some 13, op := Op.call { callee := Callee.value (Operand.func 75), args := #[Operand.tmp 12], argTypes := #[93] }, type := 4, pos := "fit.go:49", after := #[{ on := 0, ground := Ground.data }], guard := none }) rfl (fun K7 hK7 => ?_) ?_
          · go_simp
            refine (HF1.out _).mono ?_
            rintro e w1 ⟨rfl, hb⟩
            have HB1 : Hid (Below W.heap.size W w1) := Lib.hid (HD.out.trans (hb.mono HD.out.size))
            clear hb
            try dsimp only
            refine hK7.out _ _ (HBm.out _ HB1.out) (fun hHeld => ?_)
            clear hK7 K7
            try simp only [Act.put, List.setIfInBounds_toArray, List.set_cons_zero, List.set_cons_succ]
            refine wpAnyH_take (i := 2) (oi := { dst := some 14, op := Op.unOp UnOp.not 4 (Operand.tmp 13), type := 4, pos := "fit.go:49", after := #[{ on := 1, ground := Ground.data }], guard := none }) (v := ?_) rfl (by kernel_rfl) (by kernel_rfl) (by kernel_rfl) (fun _ _ _ h => h) (Or.inl ⟨by rfl, ?_⟩) hHeld ?_
            rotate_left 1
            · intro W hSw
              (try dsimp only at hSw)
              go_simp
              try with_reducible rfl
            try simp only [Act.put, List.setIfInBounds_toArray, List.set_cons_zero, List.set_cons_succ]
            refine wpAnyH_take (i := 3) (oi := { dst := some 15, op := Op.move (Operand.tmp 14), type := 4, pos := "fit.go:49", after := #[{ on := 2, ground := Ground.data }, { on := 1, ground := Ground.chain }], guard := none }) (v := ?_) rfl (by kernel_rfl) (by kernel_rfl) (by kernel_rfl) (fun _ _ _ h => h) (Or.inl ⟨by rfl, ?_⟩) hHeld ?_
            rotate_left 1
            · intro W hSw
              (try dsimp only at hSw)
              go_simp
              try with_reducible rfl
            try simp only [Act.put, List.setIfInBounds_toArray, List.set_cons_zero, List.set_cons_succ]
            refine wpAnyH_take (i := 4) (oi := { dst := some 16, op := Op.move (Operand.tmp 3), type := 3, pos := "fit.go:49", after := #[{ on := 3, ground := Ground.guard }], guard := some (3, false) }) (v := ?_) rfl (by kernel_rfl) (by kernel_rfl) (by kernel_rfl) (fun _ _ _ h => h) (Or.inl ⟨by rfl, ?_⟩) hHeld ?_
            rotate_left 1
            · intro W hSw
              (try dsimp only at hSw)
              go_simp
              try with_reducible rfl
            try simp only [Act.put, List.setIfInBounds_toArray, List.set_cons_zero, List.set_cons_succ]
            refine wpAnyH_take (i := 5) (oi := { dst := some 17, op := Op.binOp BinOp.gtr 3 (Operand.tmp 16) (Operand.const (Value.int IntKind.i64 0)) 3, type := 4, pos := "fit.go:49", after := #[{ on := 4, ground := Ground.data }, { on := 3, ground := Ground.guard }], guard := some (3, false) }) (v := ?_) rfl (by kernel_rfl) (by kernel_rfl) (by kernel_rfl) (fun _ _ _ h => h) (Or.inl ⟨by rfl, ?_⟩) hHeld ?_
            rotate_left 1
            · intro W hSw
              (try dsimp only at hSw)
              go_simp
              try with_reducible rfl
            try simp only [Act.put, List.setIfInBounds_toArray, List.set_cons_zero, List.set_cons_succ]
            refine wpAnyH_take (i := 6) (oi := { dst := some 18, op := Op.move (Operand.tmp 17), type := 4, pos := "fit.go:49", after := #[{ on := 5, ground := Ground.data }, { on := 3, ground := Ground.chain }, { on := 3, ground := Ground.guard }], guard := some (3, false) }) (v := ?_) rfl (by kernel_rfl) (by kernel_rfl) (by kernel_rfl) (fun _ _ _ h => h) (Or.inl ⟨by rfl, ?_⟩) hHeld ?_
            rotate_left 1
            · intro W hSw
              (try dsimp only at hSw)
              go_simp
              try with_reducible rfl
            try simp only [Act.put, List.setIfInBounds_toArray, List.set_cons_zero, List.set_cons_succ]
            refine wpAnyH_take (i := 7) (oi := { dst := some 19, op := Op.move (Operand.tmp 0), type := 25, pos := "fit.go:49", after := #[{ on := 6, ground := Ground.guard }], guard := some (6, true) }) (v := undef) rfl (by kernel_rfl) (by kernel_rfl) (by kernel_rfl) (fun _ _ _ h => h) (Or.inr ⟨by rfl, rfl⟩) hHeld ?_
            try simp only [Act.put, List.setIfInBounds_toArray, List.set_cons_zero, List.set_cons_succ]
            refine wpAnyH_take (i := 8) (oi := { dst := some 20, op := Op.move (Operand.tmp 3), type := 3, pos := "fit.go:49", after := #[{ on := 6, ground := Ground.guard }], guard := some (6, true) }) (v := undef) rfl (by kernel_rfl) (by kernel_rfl) (by kernel_rfl) (fun _ _ _ h => h) (Or.inr ⟨by rfl, rfl⟩) hHeld ?_
            try simp only [Act.put, List.setIfInBounds_toArray, List.set_cons_zero, List.set_cons_succ]
            refine wpAnyH_take (i := 9) (oi := { dst := some 21, op := Op.binOp BinOp.sub 3 (Operand.tmp 20) (Operand.const (Value.int IntKind.i64 1)) 3, type := 3, pos := "fit.go:49", after := #[{ on := 8, ground := Ground.data }, { on := 6, ground := Ground.guard }], guard := some (6, true) }) (v := undef) rfl (by kernel_rfl) (by kernel_rfl) (by kernel_rfl) (fun _ _ _ h => h) (Or.inr ⟨by rfl, rfl⟩) hHeld ?_
            try simp only [Act.put, List.setIfInBounds_toArray, List.set_cons_zero, List.set_cons_succ]
            refine wpAnyH_take (i := 10) (oi := { dst := some 22, op := Op.indexAddr 25 (Operand.tmp 19) (Operand.tmp 21), type := 0, pos := "fit.go:49", after := #[{ on := 7, ground := Ground.data }, { on := 9, ground := Ground.data }, { on := 6, ground := Ground.guard }], guard := some (6, true) }) (v := undef) rfl (by kernel_rfl) (by kernel_rfl) (by kernel_rfl) (fun _ _ _ h => h) (Or.inr ⟨by rfl, rfl⟩) hHeld ?_
            try simp only [Act.put, List.setIfInBounds_toArray, List.set_cons_zero, List.set_cons_succ]
            refine wpAnyH_take (i := 11) (oi := { dst := some 23, op := Op.load 93 (Operand.tmp 22), type := 93, pos := "fit.go:49", after := #[{ on := 10, ground := Ground.data }, { on := 6, ground := Ground.guard }], guard := some (6, true) }) (v := undef) rfl (by kernel_rfl) (by kernel_rfl) (by kernel_rfl) (fun _ _ _ h => h) (Or.inr ⟨by rfl, rfl⟩) hHeld ?_
            try simp only [Act.put, List.setIfInBounds_toArray, List.set_cons_zero, List.set_cons_succ]
            refine wpAnyH_take (i := 12) (oi := { dst := some 24, op := Op.load 93 (Operand.tmp 4), type := 93, pos := "fit.go:49", after := #[{ on := 6, ground := Ground.guard }], guard := some (6, true) }) (v := undef) rfl (by kernel_rfl) (by kernel_rfl) (by kernel_rfl) (fun _ _ _ h => h) (Or.inr ⟨by rfl, rfl⟩) hHeld ?_
            try simp only [Act.put, List.setIfInBounds_toArray, List.set_cons_zero, List.set_cons_succ]
            refine wpAnyH_take (i := 13) (oi := { dst := some 25, op := Op.call { callee := Callee.value (Operand.func 116), args := #[Operand.tmp 23, Operand.tmp 24], argTypes := #[93, 93] }, type := 3, pos := "fit.go:49", after := #[{ on := 11, ground := Ground.data }, { on := 12, ground := Ground.data }, { on := 6, ground := Ground.chain }, { on := 6, ground := Ground.guard }], guard := some (6, true) }) (v := undef) rfl (by kernel_rfl) (by kernel_rfl) (by kernel_rfl) (fun _ _ _ h => h) (Or.inr ⟨by rfl, rfl⟩) hHeld ?_
            try simp only [Act.put, List.setIfInBounds_toArray, List.set_cons_zero, List.set_cons_succ]
            refine wpAnyH_take (i := 14) (oi := { dst := some 26, op := Op.binOp BinOp.geq 3 (Operand.tmp 25) (Operand.const (Value.int IntKind.i64 0)) 3, type := 4, pos := "fit.go:49", after := #[{ on := 13, ground := Ground.data }, { on := 6, ground := Ground.guard }], guard := some (6, true) }) (v := undef) rfl (by kernel_rfl) (by kernel_rfl) (by kernel_rfl) (fun _ _ _ h => h) (Or.inr ⟨by rfl, rfl⟩) hHeld ?_
            try simp only [Act.put, List.setIfInBounds_toArray, List.set_cons_zero, List.set_cons_succ]
            refine wpAnyH_take (i := 15) (oi := { dst := some 27, op := Op.pick (Operand.tmp 18) (Operand.tmp 26) (Operand.const (Value.bool false)), type := 4, pos := "fit.go:49", after := #[{ on := 6, ground := Ground.data }, { on := 14, ground := Ground.data }, { on := 3, ground := Ground.guard }], guard := some (3, false) }) (v := ?_) rfl (by kernel_rfl) (by kernel_rfl) (by kernel_rfl) (fun _ _ _ h => h) (Or.inl ⟨by rfl, ?_⟩) hHeld ?_
            rotate_left 1
            · intro W hSw
              (try dsimp only at hSw)
              go_simp
              try with_reducible rfl
            try simp only [Act.put, List.setIfInBounds_toArray, List.set_cons_zero, List.set_cons_succ]
            refine wpAnyH_take (i := 16) (oi := { dst := some 28, op := Op.pick (Operand.tmp 15) (Operand.const (Value.bool true)) (Operand.tmp 27), type := 4, pos := "fit.go:49", after := #[{ on := 3, ground := Ground.data }, { on := 15, ground := Ground.data }], guard := none }) (v := ?_) rfl (by kernel_rfl) (by kernel_rfl) (by kernel_rfl) (fun _ _ _ h => h) (Or.inl ⟨by rfl, ?_⟩) hHeld ?_
            rotate_left 1
            · intro W hSw
              (try dsimp only at hSw)
              go_simp
              try with_reducible rfl
            try simp only [Act.put, List.setIfInBounds_toArray, List.set_cons_zero, List.set_cons_succ]
            refine wpAnyH_done (by kernel_rfl) ?_ _
            have HB9 := Lib.hid (HBw.out.trans (HB1.out.mono HBw.out.size))
            clear hHeld
            go_wp2
            go_roundw
            case rel => exact ⟨1, by omega, by go_num, HN2, HB9.out⟩
            case measure => simp [intOf]; omega
          exact AllReadyH.nil
          --R4ZE
        | succ k =>
          have hik : k < xs.length := by omega
          obtain ⟨y, hy⟩ : ∃ y, xs[k] = y := ⟨_, rfl⟩
          have hst := HSt1.out
          rw [show k + 1 - 1 = k by omega, List.getD_eq_getElem?_getD, List.getElem?_eq_getElem hik, Option.getD_some, hy] at hst
          rw [decide_eq_false (by omega : ¬ k + 1 = 0), Bool.false_or] at hst
          have hro := fun u hu => HRo.out k hik u hu
          rw [hy] at hro
          obtain ⟨yc, yn⟩ := y
          have HRw : Hid (∀ u, Below W.heap.size W u → u.cell? ⟨b, off + k * 2, none⟩ = some (.int .i64 yc) ∧ u.cell? ⟨b, off + k * 2 + 1, none⟩ = some (.int .i64 yn)) := Lib.hid (fun u hu => ⟨by have := hro u hu 0 _ rfl; simpa using this, hro u hu 1 _ rfl⟩)
          have hor := HOr.out ⟨yc, yn⟩ ⟨xc, xn⟩
          obtain ⟨z, hz⟩ : ∃ z, ordB ⟨yc, yn⟩ ⟨xc, xn⟩ = z := ⟨_, rfl⟩
          rw [hz] at hor hst
          simp only at hor
          have HOr1 := Lib.hid hor
          have HS2 := Lib.hid hst
          have HY := Lib.hid hy
          clear hor hst hro hy hz HRo HSt1
          by_cases hz0 : z < 0
          · have HN2 : Hid (okBansF xs (k + 1 + 1) = true) := Lib.hid (by rw [HS2.out, decide_eq_true hz0])
            have hz1 : ¬ 0 ≤ z := by omega
            go_upto_region 4 with fail
            clear hM hW d0 d1
            obtain ⟨K, hK⟩ : ∃ K : Int, ((k + 1 : Nat) : Int) = K := ⟨_, rfl⟩
            have HK := Lib.hid hK
            have hkw : True → IntKind.i64.wrap (K - 1) = (k : Int) := fun _ => by rw [← HK.out, IntKind.wrap_i64]; omega
            have hK0 : 0 < K := by omega
            have hkL : k < L := by omega
            rw [hK]
            clear hK
            --R4P
            refine wp_region_held_drew (S := fun u => (u.cell? ⟨M, 0, none⟩ = some (.int .i64 xc) ∧ u.cell? ⟨M, 1, none⟩ = some (.int .i64 xn)) ∧ u.cell? ⟨b, off + k * 2, none⟩ = some (.int .i64 yc) ∧ u.cell? ⟨b, off + k * 2 + 1, none⟩ = some (.int .i64 yn)) (by kernel_rfl) (⟨HBm.out _ HD.out, HRw.out _ HD.out⟩) (fun hHeld => ?_)
            refine wpAnyH_take (i := 0) (oi := { dst := some 12, op := Op.load 93 (Operand.tmp 4), type := 93, pos := "fit.go:49", after := #[], guard := none }) (v := ?_) rfl (by kernel_rfl) (by kernel_rfl) (by kernel_rfl) (fun _ _ _ h => h) (Or.inl ⟨by rfl, ?_⟩) hHeld ?_
            rotate_left 1
            · intro W hSw
              (try dsimp only at hSw)
              go_simp
              try with_reducible rfl
            try simp only [Act.put, List.setIfInBounds_toArray, List.set_cons_zero, List.set_cons_succ]
            refine wpAnyH_ready (rs := [1]) (by kernel_rfl) (by simp) ?_
            refine AllReadyH.cons (o := { dst := some 13, op := Op.call { callee := Callee.value (Operand.func 75), args := #[Operand.tmp 12], argTypes := #[93] }, type := 4, pos := "fit.go:49", after := #[{ on := 0, ground := Ground.data }], guard := none }) rfl (fun K7 hK7 => ?_) ?_
            · go_simp
              refine (HF1.out _).mono ?_
              rintro e w1 ⟨rfl, hb⟩
              have HB1 : Hid (Below W.heap.size W w1) := Lib.hid (HD.out.trans (hb.mono HD.out.size))
              clear hb
              try dsimp only
              refine hK7.out _ _ (⟨HBm.out _ HB1.out, HRw.out _ HB1.out⟩) (fun hHeld => ?_)
              clear hK7 K7
              try simp only [Act.put, List.setIfInBounds_toArray, List.set_cons_zero, List.set_cons_succ]
              refine wpAnyH_take (i := 2) (oi := { dst := some 14, op := Op.unOp UnOp.not 4 (Operand.tmp 13), type := 4, pos := "fit.go:49", after := #[{ on := 1, ground := Ground.data }], guard := none }) (v := ?_) rfl (by kernel_rfl) (by kernel_rfl) (by kernel_rfl) (fun _ _ _ h => h) (Or.inl ⟨by rfl, ?_⟩) hHeld ?_
              rotate_left 1
              · intro W hSw
                (try dsimp only at hSw)
                go_simp
                try with_reducible rfl
              try simp only [Act.put, List.setIfInBounds_toArray, List.set_cons_zero, List.set_cons_succ]
              refine wpAnyH_take (i := 3) (oi := { dst := some 15, op := Op.move (Operand.tmp 14), type := 4, pos := "fit.go:49", after := #[{ on := 2, ground := Ground.data }, { on := 1, ground := Ground.chain }], guard := none }) (v := ?_) rfl (by kernel_rfl) (by kernel_rfl) (by kernel_rfl) (fun _ _ _ h => h) (Or.inl ⟨by rfl, ?_⟩) hHeld ?_
              rotate_left 1
              · intro W hSw
                (try dsimp only at hSw)
                go_simp
                try with_reducible rfl
              try simp only [Act.put, List.setIfInBounds_toArray, List.set_cons_zero, List.set_cons_succ]
              refine wpAnyH_take (i := 4) (oi := { dst := some 16, op := Op.move (Operand.tmp 3), type := 3, pos := "fit.go:49", after := #[{ on := 3, ground := Ground.guard }], guard := some (3, false) }) (v := ?_) rfl (by kernel_rfl) (by kernel_rfl) (by kernel_rfl) (fun _ _ _ h => h) (Or.inl ⟨by rfl, ?_⟩) hHeld ?_
              rotate_left 1
              · intro W hSw
                (try dsimp only at hSw)
                go_simp
                try with_reducible rfl
              try simp only [Act.put, List.setIfInBounds_toArray, List.set_cons_zero, List.set_cons_succ]
              refine wpAnyH_take (i := 5) (oi := { dst := some 17, op := Op.binOp BinOp.gtr 3 (Operand.tmp 16) (Operand.const (Value.int IntKind.i64 0)) 3, type := 4, pos := "fit.go:49", after := #[{ on := 4, ground := Ground.data }, { on := 3, ground := Ground.guard }], guard := some (3, false) }) (v := ?_) rfl (by kernel_rfl) (by kernel_rfl) (by kernel_rfl) (fun _ _ _ h => h) (Or.inl ⟨by rfl, ?_⟩) hHeld ?_
              rotate_left 1
              · intro W hSw
                (try dsimp only at hSw)
                go_simp
                try with_reducible rfl
              try simp only [Act.put, List.setIfInBounds_toArray, List.set_cons_zero, List.set_cons_succ]
              refine wpAnyH_take (i := 6) (oi := { dst := some 18, op := Op.move (Operand.tmp 17), type := 4, pos := "fit.go:49", after := #[{ on := 5, ground := Ground.data }, { on := 3, ground := Ground.chain }, { on := 3, ground := Ground.guard }], guard := some (3, false) }) (v := ?_) rfl (by kernel_rfl) (by kernel_rfl) (by kernel_rfl) (fun _ _ _ h => h) (Or.inl ⟨by rfl, ?_⟩) hHeld ?_
              rotate_left 1
              · intro W hSw
                (try dsimp only at hSw)
                go_simp
                try with_reducible rfl
              try simp only [Act.put, List.setIfInBounds_toArray, List.set_cons_zero, List.set_cons_succ]
              refine wpAnyH_take (i := 7) (oi := { dst := some 19, op := Op.move (Operand.tmp 0), type := 25, pos := "fit.go:49", after := #[{ on := 6, ground := Ground.guard }], guard := some (6, true) }) (v := ?_) rfl (by kernel_rfl) (by kernel_rfl) (by kernel_rfl) (fun _ _ _ h => h) (Or.inl ⟨by rfl, ?_⟩) hHeld ?_
              rotate_left 1
              · intro W hSw
                (try dsimp only at hSw)
                go_simp
                try with_reducible rfl
              try simp only [Act.put, List.setIfInBounds_toArray, List.set_cons_zero, List.set_cons_succ]
              refine wpAnyH_take (i := 8) (oi := { dst := some 20, op := Op.move (Operand.tmp 3), type := 3, pos := "fit.go:49", after := #[{ on := 6, ground := Ground.guard }], guard := some (6, true) }) (v := ?_) rfl (by kernel_rfl) (by kernel_rfl) (by kernel_rfl) (fun _ _ _ h => h) (Or.inl ⟨by rfl, ?_⟩) hHeld ?_
              rotate_left 1
              · intro W hSw
                (try dsimp only at hSw)
                go_simp
                try with_reducible rfl
              try simp only [Act.put, List.setIfInBounds_toArray, List.set_cons_zero, List.set_cons_succ]
              refine wpAnyH_take (i := 9) (oi := { dst := some 21, op := Op.binOp BinOp.sub 3 (Operand.tmp 20) (Operand.const (Value.int IntKind.i64 1)) 3, type := 3, pos := "fit.go:49", after := #[{ on := 8, ground := Ground.data }, { on := 6, ground := Ground.guard }], guard := some (6, true) }) (v := ?_) rfl (by kernel_rfl) (by kernel_rfl) (by kernel_rfl) (fun _ _ _ h => h) (Or.inl ⟨by rfl, ?_⟩) hHeld ?_
              rotate_left 1
              · intro W hSw
                (try dsimp only at hSw)
                go_simp
                try with_reducible rfl
              try simp only [Act.put, List.setIfInBounds_toArray, List.set_cons_zero, List.set_cons_succ]
              refine wpAnyH_take (i := 10) (oi := { dst := some 22, op := Op.indexAddr 25 (Operand.tmp 19) (Operand.tmp 21), type := 0, pos := "fit.go:49", after := #[{ on := 7, ground := Ground.data }, { on := 9, ground := Ground.data }, { on := 6, ground := Ground.guard }], guard := some (6, true) }) (v := ?_) rfl (by kernel_rfl) (by kernel_rfl) (by kernel_rfl) (fun _ _ _ h => h) (Or.inl ⟨by rfl, ?_⟩) hHeld ?_
              rotate_left 1
              · intro W hSw
                (try dsimp only at hSw)
                go_simp
                try with_reducible rfl
              try simp only [Act.put, List.setIfInBounds_toArray, List.set_cons_zero, List.set_cons_succ]
              refine wpAnyH_take (i := 11) (oi := { dst := some 23, op := Op.load 93 (Operand.tmp 22), type := 93, pos := "fit.go:49", after := #[{ on := 10, ground := Ground.data }, { on := 6, ground := Ground.guard }], guard := some (6, true) }) (v := ?_) rfl (by kernel_rfl) (by kernel_rfl) (by kernel_rfl) (fun _ _ _ h => h) (Or.inl ⟨by rfl, ?_⟩) hHeld ?_
              rotate_left 1
              · intro W hSw
                (try dsimp only at hSw)
                go_simp
                try with_reducible rfl
              try simp only [Act.put, List.setIfInBounds_toArray, List.set_cons_zero, List.set_cons_succ]
              refine wpAnyH_take (i := 12) (oi := { dst := some 24, op := Op.load 93 (Operand.tmp 4), type := 93, pos := "fit.go:49", after := #[{ on := 6, ground := Ground.guard }], guard := some (6, true) }) (v := ?_) rfl (by kernel_rfl) (by kernel_rfl) (by kernel_rfl) (fun _ _ _ h => h) (Or.inl ⟨by rfl, ?_⟩) hHeld ?_
              rotate_left 1
              · intro W hSw
                (try dsimp only at hSw)
                go_simp
                try with_reducible rfl
              try simp only [Act.put, List.setIfInBounds_toArray, List.set_cons_zero, List.set_cons_succ]
              refine wpAnyH_ready (rs := [13]) (by kernel_rfl) (by simp) ?_
              refine AllReadyH.cons (o := { dst := some 25, op := Op.call { callee := Callee.value (Operand.func 116), args := #[Operand.tmp 23, Operand.tmp 24], argTypes := #[93, 93] }, type := 3, pos := "fit.go:49", after := #[{ on := 11, ground := Ground.data }, { on := 12, ground := Ground.data }, { on := 6, ground := Ground.chain }, { on := 6, ground := Ground.guard }], guard := some (6, true) }) rfl (fun K7 hK7 => ?_) ?_
              · go_simp
                refine (HOr1.out _).mono ?_
                rintro e w2 ⟨rfl, hb⟩
                have HB2 : Hid (Below W.heap.size W w2) := Lib.hid (HB1.out.trans (hb.mono HB1.out.size))
                clear hb
                try dsimp only
                refine hK7.out _ _ (⟨HBm.out _ HB2.out, HRw.out _ HB2.out⟩) (fun hHeld => ?_)
                clear hK7 K7
                try simp only [Act.put, List.setIfInBounds_toArray, List.set_cons_zero, List.set_cons_succ]
                refine wpAnyH_take (i := 14) (oi := { dst := some 26, op := Op.binOp BinOp.geq 3 (Operand.tmp 25) (Operand.const (Value.int IntKind.i64 0)) 3, type := 4, pos := "fit.go:49", after := #[{ on := 13, ground := Ground.data }, { on := 6, ground := Ground.guard }], guard := some (6, true) }) (v := ?_) rfl (by kernel_rfl) (by kernel_rfl) (by kernel_rfl) (fun _ _ _ h => h) (Or.inl ⟨by rfl, ?_⟩) hHeld ?_
                rotate_left 1
                · intro W hSw
                  (try dsimp only at hSw)
                  go_simp
                  try with_reducible rfl
                try simp only [Act.put, List.setIfInBounds_toArray, List.set_cons_zero, List.set_cons_succ]
                refine wpAnyH_take (i := 15) (oi := { dst := some 27, op := Op.pick (Operand.tmp 18) (Operand.tmp 26) (Operand.const (Value.bool false)), type := 4, pos := "fit.go:49", after := #[{ on := 6, ground := Ground.data }, { on := 14, ground := Ground.data }, { on := 3, ground := Ground.guard }], guard := some (3, false) }) (v := ?_) rfl (by kernel_rfl) (by kernel_rfl) (by kernel_rfl) (fun _ _ _ h => h) (Or.inl ⟨by rfl, ?_⟩) hHeld ?_
                rotate_left 1
                · intro W hSw
                  (try dsimp only at hSw)
                  go_simp
                  try with_reducible rfl
                try simp only [Act.put, List.setIfInBounds_toArray, List.set_cons_zero, List.set_cons_succ]
                refine wpAnyH_take (i := 16) (oi := { dst := some 28, op := Op.pick (Operand.tmp 15) (Operand.const (Value.bool true)) (Operand.tmp 27), type := 4, pos := "fit.go:49", after := #[{ on := 3, ground := Ground.data }, { on := 15, ground := Ground.data }], guard := none }) (v := ?_) rfl (by kernel_rfl) (by kernel_rfl) (by kernel_rfl) (fun _ _ _ h => h) (Or.inl ⟨by rfl, ?_⟩) hHeld ?_
                rotate_left 1
                · intro W hSw
                  (try dsimp only at hSw)
                  go_simp
                  try with_reducible rfl
                try simp only [Act.put, List.setIfInBounds_toArray, List.set_cons_zero, List.set_cons_succ]
                refine wpAnyH_done (by kernel_rfl) ?_ _
                have HB9 := Lib.hid (HBw.out.trans (HB2.out.mono HBw.out.size))
                clear hHeld
                have hK := HK.out
                clear HK
                subst hK
                obtain ⟨m, hm⟩ : ∃ m, k + 1 = m := ⟨_, rfl⟩
                rw [hm] at hlt' hk0 HN2 ⊢
                have hm8 : m < L := by omega
                have HM9 := Lib.hid hm
                clear hm hkw
                go_wp2
                go_roundw
                case rel => exact ⟨m + 1, by omega, by go_num, HN2, HB9.out⟩
                case measure => have h9 := HM9.out; simp [intOf]; omega
              exact AllReadyH.nil
            exact AllReadyH.nil
            --R4PE
          · have HR := Lib.hid (HNo.out (k + 1) hi (by rw [HS2.out, decide_eq_false hz0]))
            have hz1 : 0 ≤ z := by omega
            go_upto_region 4 with fail
            clear hM hW d0 d1
            obtain ⟨K, hK⟩ : ∃ K : Int, ((k + 1 : Nat) : Int) = K := ⟨_, rfl⟩
            have HK := Lib.hid hK
            have hkw : True → IntKind.i64.wrap (K - 1) = (k : Int) := fun _ => by rw [← HK.out, IntKind.wrap_i64]; omega
            have hK0 : 0 < K := by omega
            have hkL : k < L := by omega
            rw [hK]
            clear hK
            --R4Q
            refine wp_region_held_drew (S := fun u => (u.cell? ⟨M, 0, none⟩ = some (.int .i64 xc) ∧ u.cell? ⟨M, 1, none⟩ = some (.int .i64 xn)) ∧ u.cell? ⟨b, off + k * 2, none⟩ = some (.int .i64 yc) ∧ u.cell? ⟨b, off + k * 2 + 1, none⟩ = some (.int .i64 yn)) (by kernel_rfl) (⟨HBm.out _ HD.out, HRw.out _ HD.out⟩) (fun hHeld => ?_)
            refine wpAnyH_take (i := 0) (oi := { dst := some 12, op := Op.load 93 (Operand.tmp 4), type := 93, pos := "fit.go:49", after := #[], guard := none }) (v := ?_) rfl (by kernel_rfl) (by kernel_rfl) (by kernel_rfl) (fun _ _ _ h => h) (Or.inl ⟨by rfl, ?_⟩) hHeld ?_
            rotate_left 1
            · intro W hSw
              (try dsimp only at hSw)
              go_simp
              try with_reducible rfl
            try simp only [Act.put, List.setIfInBounds_toArray, List.set_cons_zero, List.set_cons_succ]
            refine wpAnyH_ready (rs := [1]) (by kernel_rfl) (by simp) ?_
            refine AllReadyH.cons (o := { dst := some 13, op := Op.call { callee := Callee.value (Operand.func 75), args := #[Operand.tmp 12], argTypes := #[93] }, type := 4, pos := "fit.go:49", after := #[{ on := 0, ground := Ground.data }], guard := none }) rfl (fun K7 hK7 => ?_) ?_
            · go_simp
              refine (HF1.out _).mono ?_
              rintro e w1 ⟨rfl, hb⟩
              have HB1 : Hid (Below W.heap.size W w1) := Lib.hid (HD.out.trans (hb.mono HD.out.size))
              clear hb
              try dsimp only
              refine hK7.out _ _ (⟨HBm.out _ HB1.out, HRw.out _ HB1.out⟩) (fun hHeld => ?_)
              clear hK7 K7
              try simp only [Act.put, List.setIfInBounds_toArray, List.set_cons_zero, List.set_cons_succ]
              refine wpAnyH_take (i := 2) (oi := { dst := some 14, op := Op.unOp UnOp.not 4 (Operand.tmp 13), type := 4, pos := "fit.go:49", after := #[{ on := 1, ground := Ground.data }], guard := none }) (v := ?_) rfl (by kernel_rfl) (by kernel_rfl) (by kernel_rfl) (fun _ _ _ h => h) (Or.inl ⟨by rfl, ?_⟩) hHeld ?_
              rotate_left 1
              · intro W hSw
                (try dsimp only at hSw)
                go_simp
                try with_reducible rfl
              try simp only [Act.put, List.setIfInBounds_toArray, List.set_cons_zero, List.set_cons_succ]
              refine wpAnyH_take (i := 3) (oi := { dst := some 15, op := Op.move (Operand.tmp 14), type := 4, pos := "fit.go:49", after := #[{ on := 2, ground := Ground.data }, { on := 1, ground := Ground.chain }], guard := none }) (v := ?_) rfl (by kernel_rfl) (by kernel_rfl) (by kernel_rfl) (fun _ _ _ h => h) (Or.inl ⟨by rfl, ?_⟩) hHeld ?_
              rotate_left 1
              · intro W hSw
                (try dsimp only at hSw)
                go_simp
                try with_reducible rfl
              try simp only [Act.put, List.setIfInBounds_toArray, List.set_cons_zero, List.set_cons_succ]
              refine wpAnyH_take (i := 4) (oi := { dst := some 16, op := Op.move (Operand.tmp 3), type := 3, pos := "fit.go:49", after := #[{ on := 3, ground := Ground.guard }], guard := some (3, false) }) (v := ?_) rfl (by kernel_rfl) (by kernel_rfl) (by kernel_rfl) (fun _ _ _ h => h) (Or.inl ⟨by rfl, ?_⟩) hHeld ?_
              rotate_left 1
              · intro W hSw
                (try dsimp only at hSw)
                go_simp
                try with_reducible rfl
              try simp only [Act.put, List.setIfInBounds_toArray, List.set_cons_zero, List.set_cons_succ]
              refine wpAnyH_take (i := 5) (oi := { dst := some 17, op := Op.binOp BinOp.gtr 3 (Operand.tmp 16) (Operand.const (Value.int IntKind.i64 0)) 3, type := 4, pos := "fit.go:49", after := #[{ on := 4, ground := Ground.data }, { on := 3, ground := Ground.guard }], guard := some (3, false) }) (v := ?_) rfl (by kernel_rfl) (by kernel_rfl) (by kernel_rfl) (fun _ _ _ h => h) (Or.inl ⟨by rfl, ?_⟩) hHeld ?_
              rotate_left 1
              · intro W hSw
                (try dsimp only at hSw)
                go_simp
                try with_reducible rfl
              try simp only [Act.put, List.setIfInBounds_toArray, List.set_cons_zero, List.set_cons_succ]
              refine wpAnyH_take (i := 6) (oi := { dst := some 18, op := Op.move (Operand.tmp 17), type := 4, pos := "fit.go:49", after := #[{ on := 5, ground := Ground.data }, { on := 3, ground := Ground.chain }, { on := 3, ground := Ground.guard }], guard := some (3, false) }) (v := ?_) rfl (by kernel_rfl) (by kernel_rfl) (by kernel_rfl) (fun _ _ _ h => h) (Or.inl ⟨by rfl, ?_⟩) hHeld ?_
              rotate_left 1
              · intro W hSw
                (try dsimp only at hSw)
                go_simp
                try with_reducible rfl
              try simp only [Act.put, List.setIfInBounds_toArray, List.set_cons_zero, List.set_cons_succ]
              refine wpAnyH_take (i := 7) (oi := { dst := some 19, op := Op.move (Operand.tmp 0), type := 25, pos := "fit.go:49", after := #[{ on := 6, ground := Ground.guard }], guard := some (6, true) }) (v := ?_) rfl (by kernel_rfl) (by kernel_rfl) (by kernel_rfl) (fun _ _ _ h => h) (Or.inl ⟨by rfl, ?_⟩) hHeld ?_
              rotate_left 1
              · intro W hSw
                (try dsimp only at hSw)
                go_simp
                try with_reducible rfl
              try simp only [Act.put, List.setIfInBounds_toArray, List.set_cons_zero, List.set_cons_succ]
              refine wpAnyH_take (i := 8) (oi := { dst := some 20, op := Op.move (Operand.tmp 3), type := 3, pos := "fit.go:49", after := #[{ on := 6, ground := Ground.guard }], guard := some (6, true) }) (v := ?_) rfl (by kernel_rfl) (by kernel_rfl) (by kernel_rfl) (fun _ _ _ h => h) (Or.inl ⟨by rfl, ?_⟩) hHeld ?_
              rotate_left 1
              · intro W hSw
                (try dsimp only at hSw)
                go_simp
                try with_reducible rfl
              try simp only [Act.put, List.setIfInBounds_toArray, List.set_cons_zero, List.set_cons_succ]
              refine wpAnyH_take (i := 9) (oi := { dst := some 21, op := Op.binOp BinOp.sub 3 (Operand.tmp 20) (Operand.const (Value.int IntKind.i64 1)) 3, type := 3, pos := "fit.go:49", after := #[{ on := 8, ground := Ground.data }, { on := 6, ground := Ground.guard }], guard := some (6, true) }) (v := ?_) rfl (by kernel_rfl) (by kernel_rfl) (by kernel_rfl) (fun _ _ _ h => h) (Or.inl ⟨by rfl, ?_⟩) hHeld ?_
              rotate_left 1
              · intro W hSw
                (try dsimp only at hSw)
                go_simp
                try with_reducible rfl
              try simp only [Act.put, List.setIfInBounds_toArray, List.set_cons_zero, List.set_cons_succ]
              refine wpAnyH_take (i := 10) (oi := { dst := some 22, op := Op.indexAddr 25 (Operand.tmp 19) (Operand.tmp 21), type := 0, pos := "fit.go:49", after := #[{ on := 7, ground := Ground.data }, { on := 9, ground := Ground.data }, { on := 6, ground := Ground.guard }], guard := some (6, true) }) (v := ?_) rfl (by kernel_rfl) (by kernel_rfl) (by kernel_rfl) (fun _ _ _ h => h) (Or.inl ⟨by rfl, ?_⟩) hHeld ?_
              rotate_left 1
              · intro W hSw
                (try dsimp only at hSw)
                go_simp
                try with_reducible rfl
              try simp only [Act.put, List.setIfInBounds_toArray, List.set_cons_zero, List.set_cons_succ]
              refine wpAnyH_take (i := 11) (oi := { dst := some 23, op := Op.load 93 (Operand.tmp 22), type := 93, pos := "fit.go:49", after := #[{ on := 10, ground := Ground.data }, { on := 6, ground := Ground.guard }], guard := some (6, true) }) (v := ?_) rfl (by kernel_rfl) (by kernel_rfl) (by kernel_rfl) (fun _ _ _ h => h) (Or.inl ⟨by rfl, ?_⟩) hHeld ?_
              rotate_left 1
              · intro W hSw
                (try dsimp only at hSw)
                go_simp
                try with_reducible rfl
              try simp only [Act.put, List.setIfInBounds_toArray, List.set_cons_zero, List.set_cons_succ]
              refine wpAnyH_take (i := 12) (oi := { dst := some 24, op := Op.load 93 (Operand.tmp 4), type := 93, pos := "fit.go:49", after := #[{ on := 6, ground := Ground.guard }], guard := some (6, true) }) (v := ?_) rfl (by kernel_rfl) (by kernel_rfl) (by kernel_rfl) (fun _ _ _ h => h) (Or.inl ⟨by rfl, ?_⟩) hHeld ?_
              rotate_left 1
              · intro W hSw
                (try dsimp only at hSw)
                go_simp
                try with_reducible rfl
              try simp only [Act.put, List.setIfInBounds_toArray, List.set_cons_zero, List.set_cons_succ]
              refine wpAnyH_ready (rs := [13]) (by kernel_rfl) (by simp) ?_
              refine AllReadyH.cons (o := { dst := some 25, op := Op.call { callee := Callee.value (Operand.func 116), args := #[Operand.tmp 23, Operand.tmp 24], argTypes := #[93, 93] }, type := 3, pos := "fit.go:49", after := #[{ on := 11, ground := Ground.data }, { on := 12, ground := Ground.data }, { on := 6, ground := Ground.chain }, { on := 6, ground := Ground.guard }], guard := some (6, true) }) rfl (fun K7 hK7 => ?_) ?_
              · go_simp
                refine (HOr1.out _).mono ?_
                rintro e w2 ⟨rfl, hb⟩
                have HB2 : Hid (Below W.heap.size W w2) := Lib.hid (HB1.out.trans (hb.mono HB1.out.size))
                clear hb
                try dsimp only
                refine hK7.out _ _ (⟨HBm.out _ HB2.out, HRw.out _ HB2.out⟩) (fun hHeld => ?_)
                clear hK7 K7
                try simp only [Act.put, List.setIfInBounds_toArray, List.set_cons_zero, List.set_cons_succ]
                refine wpAnyH_take (i := 14) (oi := { dst := some 26, op := Op.binOp BinOp.geq 3 (Operand.tmp 25) (Operand.const (Value.int IntKind.i64 0)) 3, type := 4, pos := "fit.go:49", after := #[{ on := 13, ground := Ground.data }, { on := 6, ground := Ground.guard }], guard := some (6, true) }) (v := ?_) rfl (by kernel_rfl) (by kernel_rfl) (by kernel_rfl) (fun _ _ _ h => h) (Or.inl ⟨by rfl, ?_⟩) hHeld ?_
                rotate_left 1
                · intro W hSw
                  (try dsimp only at hSw)
                  go_simp
                  try with_reducible rfl
                try simp only [Act.put, List.setIfInBounds_toArray, List.set_cons_zero, List.set_cons_succ]
                refine wpAnyH_take (i := 15) (oi := { dst := some 27, op := Op.pick (Operand.tmp 18) (Operand.tmp 26) (Operand.const (Value.bool false)), type := 4, pos := "fit.go:49", after := #[{ on := 6, ground := Ground.data }, { on := 14, ground := Ground.data }, { on := 3, ground := Ground.guard }], guard := some (3, false) }) (v := ?_) rfl (by kernel_rfl) (by kernel_rfl) (by kernel_rfl) (fun _ _ _ h => h) (Or.inl ⟨by rfl, ?_⟩) hHeld ?_
                rotate_left 1
                · intro W hSw
                  (try dsimp only at hSw)
                  go_simp
                  try with_reducible rfl
                try simp only [Act.put, List.setIfInBounds_toArray, List.set_cons_zero, List.set_cons_succ]
                refine wpAnyH_take (i := 16) (oi := { dst := some 28, op := Op.pick (Operand.tmp 15) (Operand.const (Value.bool true)) (Operand.tmp 27), type := 4, pos := "fit.go:49", after := #[{ on := 3, ground := Ground.data }, { on := 15, ground := Ground.data }], guard := none }) (v := ?_) rfl (by kernel_rfl) (by kernel_rfl) (by kernel_rfl) (fun _ _ _ h => h) (Or.inl ⟨by rfl, ?_⟩) hHeld ?_
                rotate_left 1
                · intro W hSw
                  (try dsimp only at hSw)
                  go_simp
                  try with_reducible rfl
                try simp only [Act.put, List.setIfInBounds_toArray, List.set_cons_zero, List.set_cons_succ]
                refine wpAnyH_done (by kernel_rfl) ?_ _
                have HB9 := Lib.hid (HBw.out.trans (HB2.out.mono HBw.out.size))
                clear hHeld
                go_wp2
                go_ret
                exact ⟨by rw [HR.out]; rfl, HB9.out⟩
              exact AllReadyH.nil
            exact AllReadyH.nil
            --R4QE
    · obtain rfl : k = L := by omega
      have HF := Lib.hid (HYes.out HN.out)
      by_cases h64 : (k : Int) ≤ 64
      · go_wp2
        go_ret
        exact ⟨by rw [HF.out]; simp; omega, HB.out⟩
      · go_wp2
        go_ret
        exact ⟨by rw [HF.out]; simp; omega, HB.out⟩
end Go.Proofs.YtoeklnmmnmmjeaaGreat.crush

namespace Go.Proofs.YtoeklnmmnmmjeaaGreat.crush
open Go.RowKit
open Go.Proofs.YtoeklnmmnmmjeaaGreat.kit Go.Proofs.YtoeklnmmnmmjeaaGreat.own
set_option linter.unusedVariables false

def atBan (xs : List BanV) (y : BanV) (p : Nat) : Bool := match xs[p]? with
  | some x => decide (ordB x y = 0)
  | none => false

set_option maxHeartbeats 8000000 in
set_option maxRecDepth 100000 in
theorem bs_any (v : Value) (xs : List BanV) (y : BanV) (p : Nat) (w : World) (h : Sl bc 2 w v xs) (hp : p ≤ xs.length) (hr : ∀ k (hk : k < xs.length), ordB xs[k] y < 0 ↔ k < p) (hl : xs.length ≤ 65536) :
    Calls Tryz.prog 222 #[v, .agg (bc y).toArray, .func (.func 116) #[] #[]] w fun e w' => e = .returned (.tuple #[.int .i64 p, .bool (atBan xs y p)]) ∧ Below w.heap.size w w' := by
  obtain ⟨hl63, a, c, rfl, -, hc⟩ := h
  have HC := Lib.hid hc
  have HLt := Lib.hid hr
  have HOr := Lib.hid (fun x u => orderBans_any x y u)
  simp only [bc] at HOr
  have HAt : Hid (∀ (hp : p < xs.length), atBan xs y p = decide (ordB xs[p] y = 0)) := Lib.hid (fun hp => by unfold atBan; rw [List.getElem?_eq_getElem hp])
  have HAn : Hid (p = xs.length → atBan xs y p = false) := Lib.hid (fun hp => by unfold atBan; rw [List.getElem?_eq_none (by omega)])
  generalize atBan xs y p = q at HAt HAn ⊢
  have hb := below_new w (.cells (bc y).toArray 93)
  have hx := alloc_at w (.cells (bc y).toArray 93)
  obtain ⟨yc, yn⟩ := y
  simp only [bc] at hb hx ⊢
  obtain ⟨L, hL⟩ : ∃ L, xs.length = L := ⟨_, rfl⟩
  have HL := Lib.hid hL
  rw [hL] at hp hl hl63 ⊢
  obtain ⟨U, hU⟩ : ∃ U, w.alloc (.cells #[.int .i64 yc, .int .i64 yn] 93) = U := ⟨_, rfl⟩
  rw [hU] at hb
  have hx2 : U.heap[w.heap.size]? = some (.cells #[.int .i64 yc, .int .i64 yn] 93 (0, 0)) := by rw [← hU]; exact hx
  have HB := Lib.hid hb; have HX := Lib.hid hx2
  have HBm : Hid (∀ u, Below U.heap.size U u → u.cell? ⟨w.heap.size, 0, none⟩ = some (.int .i64 yc) ∧ u.cell? ⟨w.heap.size, 1, none⟩ = some (.int .i64 yn)) := Lib.hid (fun u hu => bbox_at (x := ⟨yc, yn⟩) ((hu.block _ (Array.getElem?_eq_some_iff.1 HX.out).1).trans HX.out))
  clear hc hr hL hb hx hx2
  go_enter Tryz.func222, Tryz.ntmps222
  go_wp2
  clear hU
  go_loopw [9, 10] (fun v7 v8 wr => ∃ i j : Nat, v7 = .int .i64 i ∧ v8 = .int .i64 j ∧ i ≤ p ∧ p ≤ j ∧ j ≤ L ∧ Below U.heap.size U wr) (fun i j _ => (intOf j).toNat - (intOf i).toNat)
  case atStart => exact ⟨0, L, rfl, rfl, by omega, by omega, by omega, Below.refl _ _⟩
  case round =>
    obtain ⟨i, j, rfl, rfl, hip, hpj, hjL, hbw⟩ := hrel
    have HBw := Lib.hid hbw
    clear hbw
    have HDw := Lib.hid (below_drew HBw.out)
    by_cases hlt : i < j
    · have hlt' : (i : Int) < j := by omega
      obtain ⟨m, hm⟩ : ∃ m, (i + j) / 2 = m := ⟨_, rfl⟩
      have hm1 : i ≤ m ∧ m < j := by omega
      have hml : m < xs.length := by rw [HL.out]; omega
      obtain ⟨b, off, rfl, hbl, hcell⟩ := HC.out (by omega)
      have HRo : Hid (∀ u, Below U.heap.size U u → u.rangeAt b (off + m * 2) (bc xs[m])) := Lib.hid (fun u hu => range_keep (hcell m hml) hbl (HB.out.trans (hu.mono HB.out.size)))
      have hmz := HLt.out m hml
      have HOm := Lib.hid (HOr.out xs[m])
      generalize xs[m] = x at HRo hmz HOm
      obtain ⟨xc, xn⟩ := x
      have HMz := Lib.hid hmz
      have HRw : Hid (∀ u, Below U.heap.size U u → u.cell? ⟨b, off + m * 2, none⟩ = some (.int .i64 xc) ∧ u.cell? ⟨b, off + m * 2 + 1, none⟩ = some (.int .i64 xn)) := Lib.hid (fun u hu => ⟨by have := HRo.out u hu 0 _ rfl; simpa using this, HRo.out u hu 1 _ rfl⟩)
      obtain ⟨z, hz⟩ : ∃ z, ordB ⟨xc, xn⟩ ⟨yc, yn⟩ = z := ⟨_, rfl⟩
      rw [hz] at HOm HMz
      have hm0 : (0 : Int) ≤ m := by omega
      have hmL : (m : Int) < L := by omega
      have hmL' : m < L := by omega
      clear hmz hml HRo hz hcell hbl
      have hmd : ((i : Int) + j) / 2 = m := by omega
      have s0 := HBm.out _ HDw.out
      have s1 := HRw.out _ HDw.out
      by_cases hyz : z < 0
      · have hmp : m < p := HMz.out.1 hyz
        go_upto_region 5 with fail
        clear hmd
        go_region_held3 (fun u => (u.cell? ⟨w.heap.size, 0, none⟩ = some (.int .i64 yc) ∧ u.cell? ⟨w.heap.size, 1, none⟩ = some (.int .i64 yn)) ∧ u.cell? ⟨b, off + m * 2, none⟩ = some (.int .i64 xc) ∧ u.cell? ⟨b, off + m * 2 + 1, none⟩ = some (.int .i64 xn))
          (first | exact ⟨s0, s1⟩ | exact ⟨HBm.out _ HB9.out, HRw.out _ HB9.out⟩)
          (first | (go_at_call 116; refine (HOm.out _).mono ?_; rintro e w' ⟨rfl, hb⟩; have HB9 := Lib.hid (HDw.out.trans (hb.mono HDw.out.size)); clear hb))
        clear s0 s1
        go_wp2
        go_roundw
        case rel => exact ⟨m + 1, j, by go_num, rfl, by omega, by omega, by omega, HB9.out⟩
        case measure => simp [intOf]; omega
      · have hmp : p ≤ m := by
          rcases Nat.lt_or_ge m p with h1 | h1
          · exact absurd (HMz.out.2 h1) hyz
          · exact h1
        go_upto_region 5 with fail
        clear hmd
        go_region_held3 (fun u => (u.cell? ⟨w.heap.size, 0, none⟩ = some (.int .i64 yc) ∧ u.cell? ⟨w.heap.size, 1, none⟩ = some (.int .i64 yn)) ∧ u.cell? ⟨b, off + m * 2, none⟩ = some (.int .i64 xc) ∧ u.cell? ⟨b, off + m * 2 + 1, none⟩ = some (.int .i64 xn))
          (first | exact ⟨s0, s1⟩ | exact ⟨HBm.out _ HB9.out, HRw.out _ HB9.out⟩)
          (first | (go_at_call 116; refine (HOm.out _).mono ?_; rintro e w' ⟨rfl, hb⟩; have HB9 := Lib.hid (HDw.out.trans (hb.mono HDw.out.size)); clear hb))
        clear s0 s1
        go_wp2
        go_roundw
        case rel => exact ⟨i, m, rfl, rfl, by omega, by omega, by omega, HB9.out⟩
        case measure => simp [intOf]; omega
    · obtain rfl : i = j := by omega
      obtain rfl : i = p := by omega
      clear hlt hip hpj hjL
      have HBd := Lib.hid (HB.out.trans (HDw.out.mono HB.out.size))
      rcases Nat.lt_or_ge i L with hiL | hiL
      · have hiL' : (i : Int) < L := by omega
        have hi0 : (0 : Int) ≤ i := by omega
        have hml : i < xs.length := by rw [HL.out]; exact hiL
        obtain ⟨b, off, rfl, hbl, hcell⟩ := HC.out (by omega)
        have HRo : Hid (∀ u, Below U.heap.size U u → u.rangeAt b (off + i * 2) (bc xs[i])) := Lib.hid (fun u hu => range_keep (hcell i hml) hbl (HB.out.trans (hu.mono HB.out.size)))
        have hq := HAt.out hml
        have HOm := Lib.hid (HOr.out xs[i])
        generalize xs[i] = x at HRo hq HOm
        obtain ⟨xc, xn⟩ := x
        have HRw : Hid (∀ u, Below U.heap.size U u → u.cell? ⟨b, off + i * 2, none⟩ = some (.int .i64 xc) ∧ u.cell? ⟨b, off + i * 2 + 1, none⟩ = some (.int .i64 xn)) := Lib.hid (fun u hu => ⟨by have := HRo.out u hu 0 _ rfl; simpa using this, HRo.out u hu 1 _ rfl⟩)
        obtain ⟨z, hz⟩ : ∃ z, ordB ⟨xc, xn⟩ ⟨yc, yn⟩ = z := ⟨_, rfl⟩
        rw [hz] at HOm hq
        have HQ := Lib.hid hq
        clear hml HRo hz hcell hbl hq
        go_upto_region 8 with fail
        --R8
        refine wp_region_held_drew (S := fun u => (u.cell? ⟨w.heap.size, 0, none⟩ = some (.int .i64 yc) ∧ u.cell? ⟨w.heap.size, 1, none⟩ = some (.int .i64 yn)) ∧ u.cell? ⟨b, off + i * 2, none⟩ = some (.int .i64 xc) ∧ u.cell? ⟨b, off + i * 2 + 1, none⟩ = some (.int .i64 xn)) (by kernel_rfl) (⟨HBm.out _ HDw.out, HRw.out _ HDw.out⟩) (fun hHeld => ?_)
        refine wpAnyH_take (i := 0) (oi := { dst := some 35, op := Op.move (Operand.tmp 9), type := 3, pos := "sort.go:167", after := #[], guard := none }) (v := ?_) rfl (by kernel_rfl) (by kernel_rfl) (by kernel_rfl) (fun _ _ _ h => h) (Or.inl ⟨by rfl, ?_⟩) hHeld ?_
        rotate_left 1
        · intro W hSw
          (try dsimp only at hSw)
          go_simp
          try with_reducible rfl
        try simp only [Act.put, List.setIfInBounds_toArray, List.set_cons_zero, List.set_cons_succ]
        refine wpAnyH_take (i := 1) (oi := { dst := some 36, op := Op.move (Operand.tmp 9), type := 3, pos := "sort.go:167", after := #[], guard := none }) (v := ?_) rfl (by kernel_rfl) (by kernel_rfl) (by kernel_rfl) (fun _ _ _ h => h) (Or.inl ⟨by rfl, ?_⟩) hHeld ?_
        rotate_left 1
        · intro W hSw
          (try dsimp only at hSw)
          go_simp
          try with_reducible rfl
        try simp only [Act.put, List.setIfInBounds_toArray, List.set_cons_zero, List.set_cons_succ]
        refine wpAnyH_take (i := 2) (oi := { dst := some 37, op := Op.move (Operand.tmp 8), type := 3, pos := "sort.go:167", after := #[], guard := none }) (v := ?_) rfl (by kernel_rfl) (by kernel_rfl) (by kernel_rfl) (fun _ _ _ h => h) (Or.inl ⟨by rfl, ?_⟩) hHeld ?_
        rotate_left 1
        · intro W hSw
          (try dsimp only at hSw)
          go_simp
          try with_reducible rfl
        try simp only [Act.put, List.setIfInBounds_toArray, List.set_cons_zero, List.set_cons_succ]
        refine wpAnyH_take (i := 3) (oi := { dst := some 38, op := Op.binOp BinOp.lss 3 (Operand.tmp 36) (Operand.tmp 37) 3, type := 4, pos := "sort.go:167", after := #[{ on := 1, ground := Ground.data }, { on := 2, ground := Ground.data }], guard := none }) (v := ?_) rfl (by kernel_rfl) (by kernel_rfl) (by kernel_rfl) (fun _ _ _ h => h) (Or.inl ⟨by rfl, ?_⟩) hHeld ?_
        rotate_left 1
        · intro W hSw
          (try dsimp only at hSw)
          go_simp
          try with_reducible rfl
        try simp only [Act.put, List.setIfInBounds_toArray, List.set_cons_zero, List.set_cons_succ]
        refine wpAnyH_take (i := 4) (oi := { dst := some 39, op := Op.move (Operand.tmp 38), type := 4, pos := "sort.go:167", after := #[{ on := 3, ground := Ground.data }], guard := none }) (v := ?_) rfl (by kernel_rfl) (by kernel_rfl) (by kernel_rfl) (fun _ _ _ h => h) (Or.inl ⟨by rfl, ?_⟩) hHeld ?_
        rotate_left 1
        · intro W hSw
          (try dsimp only at hSw)
          go_simp
          try with_reducible rfl
        try simp only [Act.put, List.setIfInBounds_toArray, List.set_cons_zero, List.set_cons_succ]
        refine wpAnyH_take (i := 5) (oi := { dst := some 40, op := Op.move (Operand.tmp 2), type := 153, pos := "sort.go:167", after := #[{ on := 4, ground := Ground.guard }], guard := some (4, true) }) (v := ?_) rfl (by kernel_rfl) (by kernel_rfl) (by kernel_rfl) (fun _ _ _ h => h) (Or.inl ⟨by rfl, ?_⟩) hHeld ?_
        rotate_left 1
        · intro W hSw
          (try dsimp only at hSw)
          go_simp
          try with_reducible rfl
        try simp only [Act.put, List.setIfInBounds_toArray, List.set_cons_zero, List.set_cons_succ]
        refine wpAnyH_take (i := 6) (oi := { dst := some 41, op := Op.move (Operand.tmp 0), type := 25, pos := "sort.go:167", after := #[{ on := 4, ground := Ground.guard }], guard := some (4, true) }) (v := ?_) rfl (by kernel_rfl) (by kernel_rfl) (by kernel_rfl) (fun _ _ _ h => h) (Or.inl ⟨by rfl, ?_⟩) hHeld ?_
        rotate_left 1
        · intro W hSw
          (try dsimp only at hSw)
          go_simp
          try with_reducible rfl
        try simp only [Act.put, List.setIfInBounds_toArray, List.set_cons_zero, List.set_cons_succ]
        refine wpAnyH_take (i := 7) (oi := { dst := some 42, op := Op.move (Operand.tmp 9), type := 3, pos := "sort.go:167", after := #[{ on := 4, ground := Ground.guard }], guard := some (4, true) }) (v := ?_) rfl (by kernel_rfl) (by kernel_rfl) (by kernel_rfl) (fun _ _ _ h => h) (Or.inl ⟨by rfl, ?_⟩) hHeld ?_
        rotate_left 1
        · intro W hSw
          (try dsimp only at hSw)
          go_simp
          try with_reducible rfl
        try simp only [Act.put, List.setIfInBounds_toArray, List.set_cons_zero, List.set_cons_succ]
        refine wpAnyH_take (i := 8) (oi := { dst := some 43, op := Op.indexAddr 25 (Operand.tmp 41) (Operand.tmp 42), type := 0, pos := "sort.go:167", after := #[{ on := 6, ground := Ground.data }, { on := 7, ground := Ground.data }, { on := 4, ground := Ground.guard }], guard := some (4, true) }) (v := ?_) rfl (by kernel_rfl) (by kernel_rfl) (by kernel_rfl) (fun _ _ _ h => h) (Or.inl ⟨by rfl, ?_⟩) hHeld ?_
        rotate_left 1
        · intro W hSw
          (try dsimp only at hSw)
          go_simp
          try with_reducible rfl
        try simp only [Act.put, List.setIfInBounds_toArray, List.set_cons_zero, List.set_cons_succ]
        refine wpAnyH_take (i := 9) (oi := { dst := some 44, op := Op.load 93 (Operand.tmp 43), type := 93, pos := "sort.go:167", after := #[{ on := 8, ground := Ground.data }, { on := 4, ground := Ground.guard }], guard := some (4, true) }) (v := ?_) rfl (by kernel_rfl) (by kernel_rfl) (by kernel_rfl) (fun _ _ _ h => h) (Or.inl ⟨by rfl, ?_⟩) hHeld ?_
        rotate_left 1
        · intro W hSw
          (try dsimp only at hSw)
          go_simp
          try with_reducible rfl
        try simp only [Act.put, List.setIfInBounds_toArray, List.set_cons_zero, List.set_cons_succ]
        refine wpAnyH_take (i := 10) (oi := { dst := some 45, op := Op.load 93 (Operand.tmp 4), type := 93, pos := "sort.go:167", after := #[{ on := 4, ground := Ground.guard }], guard := some (4, true) }) (v := ?_) rfl (by kernel_rfl) (by kernel_rfl) (by kernel_rfl) (fun _ _ _ h => h) (Or.inl ⟨by rfl, ?_⟩) hHeld ?_
        rotate_left 1
        · intro W hSw
          (try dsimp only at hSw)
          go_simp
          try with_reducible rfl
        try simp only [Act.put, List.setIfInBounds_toArray, List.set_cons_zero, List.set_cons_succ]
        refine wpAnyH_ready (rs := [11]) (by kernel_rfl) (by simp) ?_
        refine AllReadyH.cons (o := { dst := some 46, op := Op.call { callee := Callee.value (Operand.tmp 40), args := #[Operand.tmp 44, Operand.tmp 45], argTypes := #[93, 93] }, type := 3, pos := "sort.go:167", after := #[{ on := 5, ground := Ground.data }, { on := 9, ground := Ground.data }, { on := 10, ground := Ground.data }, { on := 4, ground := Ground.chain }, { on := 4, ground := Ground.guard }], guard := some (4, true) }) rfl (fun K7 hK7 => ?_) ?_
        · go_simp
          refine (HOm.out _).mono ?_
          rintro e w1 ⟨rfl, hb⟩
          have HB9 := Lib.hid (HDw.out.trans (hb.mono HDw.out.size))
          clear hb
          try dsimp only
          refine hK7.out _ _ (⟨HBm.out _ HB9.out, HRw.out _ HB9.out⟩) (fun hHeld => ?_)
          clear hK7 K7
          try simp only [Act.put, List.setIfInBounds_toArray, List.set_cons_zero, List.set_cons_succ]
          refine wpAnyH_take (i := 12) (oi := { dst := some 47, op := Op.binOp BinOp.eql 3 (Operand.tmp 46) (Operand.const (Value.int IntKind.i64 0)) 3, type := 4, pos := "sort.go:167", after := #[{ on := 11, ground := Ground.data }, { on := 4, ground := Ground.guard }, { on := 14, ground := Ground.gcOnly Departure.lateStores }], guard := some (4, true) }) (v := ?_) rfl (by kernel_rfl) (by kernel_rfl) (by kernel_rfl) (fun _ _ _ h => h) (Or.inl ⟨by rfl, ?_⟩) hHeld ?_
          rotate_left 1
          · intro W hSw
            (try dsimp only at hSw)
            go_simp
            try with_reducible rfl
          try simp only [Act.put, List.setIfInBounds_toArray, List.set_cons_zero, List.set_cons_succ]
          refine wpAnyH_take (i := 13) (oi := { dst := some 48, op := Op.pick (Operand.tmp 39) (Operand.tmp 47) (Operand.const (Value.bool false)), type := 4, pos := "sort.go:167", after := #[{ on := 4, ground := Ground.data }, { on := 12, ground := Ground.data }, { on := 14, ground := Ground.gcOnly Departure.lateStores }], guard := none }) (v := ?_) rfl (by kernel_rfl) (by kernel_rfl) (by kernel_rfl) (fun _ _ _ h => h) (Or.inl ⟨by rfl, ?_⟩) hHeld ?_
          rotate_left 1
          · intro W hSw
            (try dsimp only at hSw)
            go_simp
            try with_reducible rfl
          try simp only [Act.put, List.setIfInBounds_toArray, List.set_cons_zero, List.set_cons_succ]
          refine wpAnyH_take (i := 14) (oi := { dst := some 6, op := Op.assign (Operand.tmp 35), type := 3, pos := "sort.go:167", after := #[{ on := 0, ground := Ground.data }, { on := 11, ground := Ground.chain }, { on := 0, ground := Ground.phase }, { on := 1, ground := Ground.textOnly Departure.lateStores }, { on := 2, ground := Ground.textOnly Departure.lateStores }, { on := 3, ground := Ground.textOnly Departure.lateStores }, { on := 4, ground := Ground.textOnly Departure.lateStores }, { on := 5, ground := Ground.textOnly Departure.lateStores }, { on := 6, ground := Ground.textOnly Departure.lateStores }, { on := 7, ground := Ground.textOnly Departure.lateStores }, { on := 8, ground := Ground.textOnly Departure.lateStores }, { on := 9, ground := Ground.textOnly Departure.lateStores }, { on := 10, ground := Ground.textOnly Departure.lateStores }, { on := 11, ground := Ground.textOnly Departure.lateStoresUnsure }, { on := 12, ground := Ground.textOnly Departure.lateStores }, { on := 13, ground := Ground.textOnly Departure.lateStores }], guard := none }) (v := ?_) rfl (by kernel_rfl) (by kernel_rfl) (by kernel_rfl) (fun _ _ _ h => h) (Or.inl ⟨by rfl, ?_⟩) hHeld ?_
          rotate_left 1
          · intro W hSw
            (try dsimp only at hSw)
            go_simp
            try with_reducible rfl
          try simp only [Act.put, List.setIfInBounds_toArray, List.set_cons_zero, List.set_cons_succ]
          refine wpAnyH_take (i := 15) (oi := { dst := some 7, op := Op.assign (Operand.tmp 48), type := 4, pos := "sort.go:167", after := #[{ on := 13, ground := Ground.data }, { on := 14, ground := Ground.chain }, { on := 0, ground := Ground.phase }, { on := 1, ground := Ground.phase }, { on := 2, ground := Ground.phase }, { on := 3, ground := Ground.phase }, { on := 4, ground := Ground.phase }, { on := 5, ground := Ground.phase }, { on := 6, ground := Ground.phase }, { on := 7, ground := Ground.phase }, { on := 8, ground := Ground.phase }, { on := 9, ground := Ground.phase }, { on := 10, ground := Ground.phase }, { on := 11, ground := Ground.phase }, { on := 12, ground := Ground.phase }, { on := 13, ground := Ground.phase }, { on := 14, ground := Ground.phase }], guard := none }) (v := ?_) rfl (by kernel_rfl) (by kernel_rfl) (by kernel_rfl) (fun _ _ _ h => h) (Or.inl ⟨by rfl, ?_⟩) hHeld ?_
          rotate_left 1
          · intro W hSw
            (try dsimp only at hSw)
            go_simp
            try with_reducible rfl
          try simp only [Act.put, List.setIfInBounds_toArray, List.set_cons_zero, List.set_cons_succ]
          refine wpAnyH_done (by kernel_rfl) ?_ _
          have HBe := Lib.hid (HB.out.trans (HB9.out.mono HB.out.size))
          clear hHeld
          go_wp2
          go_ret2
          exact ⟨by rw [HQ.out]; rfl, HBe.out⟩
        exact AllReadyH.nil
        --R8E
      · have HQ := Lib.hid (HAn.out (by rw [HL.out]; omega))
        have hiL' : ¬ (i : Int) < L := by omega
        go_upto_region 8 with fail
        --R8N
        refine wp_region_held_drew (S := fun _ => True) (by kernel_rfl) (trivial) (fun hHeld => ?_)
        refine wpAnyH_take (i := 0) (oi := { dst := some 35, op := Op.move (Operand.tmp 9), type := 3, pos := "sort.go:167", after := #[], guard := none }) (v := ?_) rfl (by kernel_rfl) (by kernel_rfl) (by kernel_rfl) (fun _ _ _ h => h) (Or.inl ⟨by rfl, ?_⟩) hHeld ?_
        rotate_left 1
        · intro W hSw
          (try dsimp only at hSw)
          go_simp
          try with_reducible rfl
        try simp only [Act.put, List.setIfInBounds_toArray, List.set_cons_zero, List.set_cons_succ]
        refine wpAnyH_take (i := 1) (oi := { dst := some 36, op := Op.move (Operand.tmp 9), type := 3, pos := "sort.go:167", after := #[], guard := none }) (v := ?_) rfl (by kernel_rfl) (by kernel_rfl) (by kernel_rfl) (fun _ _ _ h => h) (Or.inl ⟨by rfl, ?_⟩) hHeld ?_
        rotate_left 1
        · intro W hSw
          (try dsimp only at hSw)
          go_simp
          try with_reducible rfl
        try simp only [Act.put, List.setIfInBounds_toArray, List.set_cons_zero, List.set_cons_succ]
        refine wpAnyH_take (i := 2) (oi := { dst := some 37, op := Op.move (Operand.tmp 8), type := 3, pos := "sort.go:167", after := #[], guard := none }) (v := ?_) rfl (by kernel_rfl) (by kernel_rfl) (by kernel_rfl) (fun _ _ _ h => h) (Or.inl ⟨by rfl, ?_⟩) hHeld ?_
        rotate_left 1
        · intro W hSw
          (try dsimp only at hSw)
          go_simp
          try with_reducible rfl
        try simp only [Act.put, List.setIfInBounds_toArray, List.set_cons_zero, List.set_cons_succ]
        refine wpAnyH_take (i := 3) (oi := { dst := some 38, op := Op.binOp BinOp.lss 3 (Operand.tmp 36) (Operand.tmp 37) 3, type := 4, pos := "sort.go:167", after := #[{ on := 1, ground := Ground.data }, { on := 2, ground := Ground.data }], guard := none }) (v := ?_) rfl (by kernel_rfl) (by kernel_rfl) (by kernel_rfl) (fun _ _ _ h => h) (Or.inl ⟨by rfl, ?_⟩) hHeld ?_
        rotate_left 1
        · intro W hSw
          (try dsimp only at hSw)
          go_simp
          try with_reducible rfl
        try simp only [Act.put, List.setIfInBounds_toArray, List.set_cons_zero, List.set_cons_succ]
        refine wpAnyH_take (i := 4) (oi := { dst := some 39, op := Op.move (Operand.tmp 38), type := 4, pos := "sort.go:167", after := #[{ on := 3, ground := Ground.data }], guard := none }) (v := ?_) rfl (by kernel_rfl) (by kernel_rfl) (by kernel_rfl) (fun _ _ _ h => h) (Or.inl ⟨by rfl, ?_⟩) hHeld ?_
        rotate_left 1
        · intro W hSw
          (try dsimp only at hSw)
          go_simp
          try with_reducible rfl
        try simp only [Act.put, List.setIfInBounds_toArray, List.set_cons_zero, List.set_cons_succ]
        refine wpAnyH_take (i := 5) (oi := { dst := some 40, op := Op.move (Operand.tmp 2), type := 153, pos := "sort.go:167", after := #[{ on := 4, ground := Ground.guard }], guard := some (4, true) }) (v := undef) rfl (by kernel_rfl) (by kernel_rfl) (by kernel_rfl) (fun _ _ _ h => h) (Or.inr ⟨by rfl, rfl⟩) hHeld ?_
        try simp only [Act.put, List.setIfInBounds_toArray, List.set_cons_zero, List.set_cons_succ]
        refine wpAnyH_take (i := 6) (oi := { dst := some 41, op := Op.move (Operand.tmp 0), type := 25, pos := "sort.go:167", after := #[{ on := 4, ground := Ground.guard }], guard := some (4, true) }) (v := undef) rfl (by kernel_rfl) (by kernel_rfl) (by kernel_rfl) (fun _ _ _ h => h) (Or.inr ⟨by rfl, rfl⟩) hHeld ?_
        try simp only [Act.put, List.setIfInBounds_toArray, List.set_cons_zero, List.set_cons_succ]
        refine wpAnyH_take (i := 7) (oi := { dst := some 42, op := Op.move (Operand.tmp 9), type := 3, pos := "sort.go:167", after := #[{ on := 4, ground := Ground.guard }], guard := some (4, true) }) (v := undef) rfl (by kernel_rfl) (by kernel_rfl) (by kernel_rfl) (fun _ _ _ h => h) (Or.inr ⟨by rfl, rfl⟩) hHeld ?_
        try simp only [Act.put, List.setIfInBounds_toArray, List.set_cons_zero, List.set_cons_succ]
        refine wpAnyH_take (i := 8) (oi := { dst := some 43, op := Op.indexAddr 25 (Operand.tmp 41) (Operand.tmp 42), type := 0, pos := "sort.go:167", after := #[{ on := 6, ground := Ground.data }, { on := 7, ground := Ground.data }, { on := 4, ground := Ground.guard }], guard := some (4, true) }) (v := undef) rfl (by kernel_rfl) (by kernel_rfl) (by kernel_rfl) (fun _ _ _ h => h) (Or.inr ⟨by rfl, rfl⟩) hHeld ?_
        try simp only [Act.put, List.setIfInBounds_toArray, List.set_cons_zero, List.set_cons_succ]
        refine wpAnyH_take (i := 9) (oi := { dst := some 44, op := Op.load 93 (Operand.tmp 43), type := 93, pos := "sort.go:167", after := #[{ on := 8, ground := Ground.data }, { on := 4, ground := Ground.guard }], guard := some (4, true) }) (v := undef) rfl (by kernel_rfl) (by kernel_rfl) (by kernel_rfl) (fun _ _ _ h => h) (Or.inr ⟨by rfl, rfl⟩) hHeld ?_
        try simp only [Act.put, List.setIfInBounds_toArray, List.set_cons_zero, List.set_cons_succ]
        refine wpAnyH_take (i := 10) (oi := { dst := some 45, op := Op.load 93 (Operand.tmp 4), type := 93, pos := "sort.go:167", after := #[{ on := 4, ground := Ground.guard }], guard := some (4, true) }) (v := undef) rfl (by kernel_rfl) (by kernel_rfl) (by kernel_rfl) (fun _ _ _ h => h) (Or.inr ⟨by rfl, rfl⟩) hHeld ?_
        try simp only [Act.put, List.setIfInBounds_toArray, List.set_cons_zero, List.set_cons_succ]
        refine wpAnyH_take (i := 11) (oi := { dst := some 46, op := Op.call { callee := Callee.value (Operand.tmp 40), args := #[Operand.tmp 44, Operand.tmp 45], argTypes := #[93, 93] }, type := 3, pos := "sort.go:167", after := #[{ on := 5, ground := Ground.data }, { on := 9, ground := Ground.data }, { on := 10, ground := Ground.data }, { on := 4, ground := Ground.chain }, { on := 4, ground := Ground.guard }], guard := some (4, true) }) (v := undef) rfl (by kernel_rfl) (by kernel_rfl) (by kernel_rfl) (fun _ _ _ h => h) (Or.inr ⟨by rfl, rfl⟩) hHeld ?_
        try simp only [Act.put, List.setIfInBounds_toArray, List.set_cons_zero, List.set_cons_succ]
        refine wpAnyH_take (i := 12) (oi := { dst := some 47, op := Op.binOp BinOp.eql 3 (Operand.tmp 46) (Operand.const (Value.int IntKind.i64 0)) 3, type := 4, pos := "sort.go:167", after := #[{ on := 11, ground := Ground.data }, { on := 4, ground := Ground.guard }, { on := 14, ground := Ground.gcOnly Departure.lateStores }], guard := some (4, true) }) (v := undef) rfl (by kernel_rfl) (by kernel_rfl) (by kernel_rfl) (fun _ _ _ h => h) (Or.inr ⟨by rfl, rfl⟩) hHeld ?_
        try simp only [Act.put, List.setIfInBounds_toArray, List.set_cons_zero, List.set_cons_succ]
        refine wpAnyH_take (i := 13) (oi := { dst := some 48, op := Op.pick (Operand.tmp 39) (Operand.tmp 47) (Operand.const (Value.bool false)), type := 4, pos := "sort.go:167", after := #[{ on := 4, ground := Ground.data }, { on := 12, ground := Ground.data }, { on := 14, ground := Ground.gcOnly Departure.lateStores }], guard := none }) (v := ?_) rfl (by kernel_rfl) (by kernel_rfl) (by kernel_rfl) (fun _ _ _ h => h) (Or.inl ⟨by rfl, ?_⟩) hHeld ?_
        rotate_left 1
        · intro W hSw
          (try dsimp only at hSw)
          go_simp
          try with_reducible rfl
        try simp only [Act.put, List.setIfInBounds_toArray, List.set_cons_zero, List.set_cons_succ]
        refine wpAnyH_take (i := 14) (oi := { dst := some 6, op := Op.assign (Operand.tmp 35), type := 3, pos := "sort.go:167", after := #[{ on := 0, ground := Ground.data }, { on := 11, ground := Ground.chain }, { on := 0, ground := Ground.phase }, { on := 1, ground := Ground.textOnly Departure.lateStores }, { on := 2, ground := Ground.textOnly Departure.lateStores }, { on := 3, ground := Ground.textOnly Departure.lateStores }, { on := 4, ground := Ground.textOnly Departure.lateStores }, { on := 5, ground := Ground.textOnly Departure.lateStores }, { on := 6, ground := Ground.textOnly Departure.lateStores }, { on := 7, ground := Ground.textOnly Departure.lateStores }, { on := 8, ground := Ground.textOnly Departure.lateStores }, { on := 9, ground := Ground.textOnly Departure.lateStores }, { on := 10, ground := Ground.textOnly Departure.lateStores }, { on := 11, ground := Ground.textOnly Departure.lateStoresUnsure }, { on := 12, ground := Ground.textOnly Departure.lateStores }, { on := 13, ground := Ground.textOnly Departure.lateStores }], guard := none }) (v := ?_) rfl (by kernel_rfl) (by kernel_rfl) (by kernel_rfl) (fun _ _ _ h => h) (Or.inl ⟨by rfl, ?_⟩) hHeld ?_
        rotate_left 1
        · intro W hSw
          (try dsimp only at hSw)
          go_simp
          try with_reducible rfl
        try simp only [Act.put, List.setIfInBounds_toArray, List.set_cons_zero, List.set_cons_succ]
        refine wpAnyH_take (i := 15) (oi := { dst := some 7, op := Op.assign (Operand.tmp 48), type := 4, pos := "sort.go:167", after := #[{ on := 13, ground := Ground.data }, { on := 14, ground := Ground.chain }, { on := 0, ground := Ground.phase }, { on := 1, ground := Ground.phase }, { on := 2, ground := Ground.phase }, { on := 3, ground := Ground.phase }, { on := 4, ground := Ground.phase }, { on := 5, ground := Ground.phase }, { on := 6, ground := Ground.phase }, { on := 7, ground := Ground.phase }, { on := 8, ground := Ground.phase }, { on := 9, ground := Ground.phase }, { on := 10, ground := Ground.phase }, { on := 11, ground := Ground.phase }, { on := 12, ground := Ground.phase }, { on := 13, ground := Ground.phase }, { on := 14, ground := Ground.phase }], guard := none }) (v := ?_) rfl (by kernel_rfl) (by kernel_rfl) (by kernel_rfl) (fun _ _ _ h => h) (Or.inl ⟨by rfl, ?_⟩) hHeld ?_
        rotate_left 1
        · intro W hSw
          (try dsimp only at hSw)
          go_simp
          try with_reducible rfl
        try simp only [Act.put, List.setIfInBounds_toArray, List.set_cons_zero, List.set_cons_succ]
        refine wpAnyH_done (by kernel_rfl) ?_ _
        clear hHeld
        go_wp2
        go_ret2
        exact ⟨by rw [HQ.out]; rfl, HBd.out⟩
        --R8NE
end Go.Proofs.YtoeklnmmnmmjeaaGreat.crush

namespace Go.Proofs.YtoeklnmmnmmjeaaGreat.crush
open Go.RowKit
open Go.Proofs.YtoeklnmmnmmjeaaGreat.kit Go.Proofs.YtoeklnmmnmmjeaaGreat.own
set_option linter.unusedVariables false

section
variable {α : Type} {enc : α → List Value} {k : Nat}
/-- Rows written over the end of a row of the call's own. -/
theorem OwnAt.over (hk : ∀ x, (enc x).length = k) {e g cap : Nat} {w : World} {xs : List α} (h : OwnAt enc k e w g cap xs) (j : Nat) (ys : List α) (hj : j ≤ xs.length) (hn : xs.length ≤ j + ys.length) (hc : j + ys.length ≤ cap) :
    OwnAt enc k e (w.setCells g (j * k) (ys.flatMap enc)) g cap (xs.take j ++ ys) := by
  obtain ⟨cur, h1, h2, h3⟩ := h.ex
  have hlen : (xs.take j ++ ys).length = j + ys.length := by simp; omega
  have hyl := flat_len hk ys
  have hb : j * k + (ys.flatMap enc).length ≤ cur.toList.length := by
    have hcl : cur.toList.length = cap * k := by simpa using h2
    rw [hyl, hcl, ← Nat.add_mul]
    exact Nat.mul_le_mul_right _ hc
  refine ⟨⟨_, heap_setCells g e _ _ w cur h1, by simpa [setL_len] using h2, ?_⟩, by rw [hlen]; exact hc, h.max⟩
  rw [hlen]
  apply List.ext_getElem?
  intro t
  have hmul : j * k ≤ xs.length * k := Nat.mul_le_mul_right _ hj
  rw [List.getElem?_take, setL_at _ _ _ _ hb, hyl, List.flatMap_append, Nat.add_mul]
  have hx : ∀ t, t < xs.length * k → cur.toList[t]? = (xs.flatMap enc)[t]? := fun t ht => by
    rw [← h3, List.getElem?_take, if_pos ht]
  have htk : ((xs.take j).flatMap enc).length = j * k := by rw [flat_len hk, List.length_take, Nat.min_eq_left (by omega)]
  have hta : xs.flatMap enc = (xs.take j).flatMap enc ++ (xs.drop j).flatMap enc := by rw [← List.flatMap_append, List.take_append_drop]
  by_cases ht : t < j * k + ys.length * k
  · rw [if_pos ht]
    by_cases h5 : j * k ≤ t ∧ t < j * k + ys.length * k
    · rw [if_pos h5, List.getElem?_append_right (by rw [htk]; exact h5.1), htk]
    · rw [if_neg h5, hx t (by omega), List.getElem?_append_left (by rw [htk]; omega), hta, List.getElem?_append_left (by rw [htk]; omega)]
  · rw [if_neg ht, List.getElem?_eq_none]
    rw [List.length_append, htk, hyl]
    omega
end

/-- A ban more. -/
def InsO (B : Nat → Prop) (xs : List BanV) (w : World) (e : Ending) (w' : World) : Prop := ∃ v, e = .returned v ∧ OwnP bc 2 93 w' B v xs ∧ Kept 0 93 w w' ∧ Far B w w'

set_option maxHeartbeats 8000000 in
set_option maxRecDepth 100000 in
theorem insEnd_any (v : Value) (xs : List BanV) (y : BanV) (B : Nat → Prop) (w : World) (h : OwnP bc 2 93 w B v xs) (hB : In B w) (vx : Value) (hx : Sl bc 2 w vx [y]) (hl : xs.length ≤ 64) :
    Calls Tryz.prog 223 #[v, .int .i64 xs.length, vx] w (InsO B (xs ++ [y]) w) := by
  obtain ⟨a, c, rfl⟩ := h.slice
  obtain ⟨ax, cx, rfl⟩ := hx.slice
  have HO := Lib.hid h; have HX := Lib.hid hx; have HB := Lib.hid hB
  have hle : xs.length ≤ c := by
    rcases h.1.at with ⟨e, e2⟩ | ⟨g, cap, e, -, hat⟩
    · rw [e2]; exact Nat.zero_le _
    · cases e; exact hat.le
  have hcm : c ≤ maxLen := by
    rcases h.1.at with ⟨e, e2⟩ | ⟨g, cap, e, -, hat⟩
    · simp only [Value.slice.injEq] at e; unfold maxLen; omega
    · cases e; exact hat.max
  unfold maxLen at hcm
  clear h hx hB
  obtain ⟨L, hL⟩ : ∃ L, xs.length = L := ⟨_, rfl⟩
  have HL := Lib.hid hL
  rw [hL] at hl HO hle ⊢
  clear hL
  have h1 : ([y] : List BanV).length = 1 := rfl
  rw [h1]
  clear h1
  go_enter Tryz.func223, Tryz.ntmps223
  go_wp2_with (at_builtin; refine wpList_plain rfl fun _ hK => step_app1P bc_len bc_one (by decide) _ _ 25 rfl B 93 _ (by rfl) 16 Tryz.underlying25 infoBan _ xs rfl HO.out _ y rfl HX.out (by rw [HL.out]; unfold maxLen; omega) (by rw [HL.out]; omega) HB.out ?_; intro v5 w5 ho hk hgr; refine hK _ _ ?_; have HO5 := Lib.hid ho; have HK5 := Lib.hid hk; have HF5 := Lib.hid hgr; clear ho hk hgr)
  all_goals
    go_ret
    exact ⟨_, rfl, HO5.out, HK5.out, HF5.out⟩

set_option maxHeartbeats 8000000 in
set_option maxRecDepth 100000 in
theorem insMid_any (xs : List BanV) (y : BanV) (g cap i : Nat) (w : World) (h : OwnAt bc 2 93 w g cap xs) (hi : i < xs.length) (hroom : xs.length + 1 ≤ cap) (hl : xs.length ≤ 64) (N T cx : Nat) (hx : w.heap[N]? = some (.cells (bc y).toArray T (0, 0))) (hne : N ≠ g) :
    Calls Tryz.prog 223 #[.slice (some ⟨g, 0, none⟩) xs.length cap, .int .i64 i, .slice (some ⟨N, 0, none⟩) 1 cx] w fun e w' => e = .returned (.slice (some ⟨g, 0, none⟩) (xs.length + 1) cap) ∧ OwnAt bc 2 93 w' g cap (xs.take i ++ y :: xs.drop i) ∧ w' = (w.drew.setCells g ((i + 1) * 2) ((xs.drop i).flatMap bc)).setCells g (i * 2) (bc y) := by
  have hcm := h.max
  unfold maxLen at hcm
  obtain ⟨cur, hgc, hgs, -⟩ := h.ex
  have hov : ∀ W, (∀ k, W.heap[k]? = w.heap[k]?) → ∀ o lb cb, (callFunc 233 #[.slice (some ⟨N, 0, none⟩) 1 cx, .slice (some ⟨g, o, none⟩) lb cb]).run Tryz.prog W = .ok (.value (.bool false)) W := fun W hW o lb cb => by
    have hN := (hW N).trans hx
    have hG := (hW g).trans hgc
    have hs1 : W.shape? N = some (T, 2) := by unfold World.shape?; rw [hN]; rfl
    have hs2 : W.shape? g = some (93, cur.size) := by unfold World.shape?; rw [hG]
    have hs3 : W.frozen? ⟨N, 0, none⟩ = false := by unfold World.frozen?; rw [hN]; rfl
    have hs4 : W.frozen? ⟨N, 2, none⟩ = false := by unfold World.frozen?; rw [hN]; rfl
    rw [run_callFunc_extern Tryz.func233 (by kernel_rfl) (by kernel_rfl) (by kernel_rfl) (e := Extern.SlicesOverlaps.overlaps #[25, 25] #[4]) (by kernel_rfl),
      Lib.run_overlaps_apart W 25 4 93 Tryz.underlying25 2 (fun _ => by kernel_rfl) ⟨N, 0, none⟩ ⟨g, o, none⟩ 1 cx lb cb hne T 93 2 cur.size hs1 hs2 (by rw [hgs]; omega) hs3 hs4]
    rfl
  have hov1 := hov w (fun _ => rfl)
  obtain ⟨n, hn⟩ : ∃ n, xs.length = n := ⟨_, rfl⟩
  have HN := Lib.hid hn
  have HH := Lib.hid h
  have HX := Lib.hid hx
  rw [hn] at hi hroom hl ⊢
  clear hov hn h hx hgc hgs
  have hz1 : ¬ ((1 : Int) = 0) := by omega
  have hz2 : ¬ ((i : Int) = (n : Int)) := by omega
  have hw1 : IntKind.i64.wrap ((i : Int) + 1) = (i : Int) + 1 := by rw [IntKind.wrap_i64]; omega
  have hb1 : (0 : Int) ≤ (i : Int) + 1 := by omega
  have hin : i ≤ n := by omega
  have htn : ((i : Int) + 1).toNat = i + 1 := by omega
  have hb2 : ¬ (cap = i + 1) := by omega
  have hb3 : (i : Int) ≤ (n : Int) + 1 := by omega
  have hb4 : ¬ (cap = i) := by omega
  have hsz : (Tryz.prog.info? 93).map (·.size) = some 2 := by kernel_rfl
  have hHd : OwnAt bc 2 93 w.drew g cap xs := HH.out.block rfl
  have hdl : ((xs.drop i).flatMap bc).length = (n - i) * 2 := by rw [flat_len bc_len, List.length_drop, HN.out]
  have hcp1 : ∀ ty dc sc, (Builtin.copy_ #[25, 25] ty #[.slice (some ⟨g, (i + 1) * 2, none⟩) (n - i) dc, .slice (some ⟨g, i * 2, none⟩) (n + 1 - i) sc]).run Tryz.prog w.drew = .ok (goInt ((n - i : Nat) : Nat)) (w.drew.setCells g ((i + 1) * 2) ((xs.drop i).flatMap bc)) := fun ty dc sc =>
    run_copy_m w.drew _ _ ty 93 g ((i + 1) * 2) (n - i) dc ⟨g, i * 2, none⟩ (n + 1 - i) sc 2 (n - i) ((xs.drop i).flatMap bc) Tryz.underlying25 hsz (by simp only [Nat.min_def]; split <;> omega) hdl
      (fun j v hj => by
        have hlt : j < (n - i) * 2 := by rw [← hdl]; exact (List.getElem?_eq_some_iff.1 hj).1
        rw [add_plain']
        refine hHd.cells (i * 2 + j) v (by rw [HN.out]; omega) ?_
        have e : xs.flatMap bc = (xs.take i).flatMap bc ++ (xs.drop i).flatMap bc := by rw [← List.flatMap_append, List.take_append_drop]
        have el : ((xs.take i).flatMap bc).length = i * 2 := by rw [flat_len bc_len, List.length_take, HN.out, Nat.min_eq_left (by omega)]
        rw [e, List.getElem?_append_right (by rw [el]; omega), el, Nat.add_sub_cancel_left]
        exact hj)
      (fun j hj => hHd.some _ (by rw [hdl] at hj; omega)) (fun j hj => hHd.thaw _)
      (fun v hv => by
        obtain ⟨x, _, hx⟩ := List.mem_flatMap.1 hv
        exact bc_one x v hx)
  have hov2 := hHd.over bc_len (i + 1) (xs.drop i) (by rw [HN.out]; omega) (by rw [List.length_drop, HN.out]; omega) (by rw [List.length_drop, HN.out]; omega)
  obtain ⟨W1, hW1⟩ : ∃ W1, w.drew.setCells g ((i + 1) * 2) ((xs.drop i).flatMap bc) = W1 := ⟨_, rfl⟩
  have HW1 := Lib.hid hW1
  rw [hW1] at hov2
  simp only [hW1] at hcp1
  have hx1 : W1.heap[N]? = some (.cells (bc y).toArray T (0, 0)) := by
    rw [← hW1]
    rw [heap_setCells_other g _ _ w.drew N hne]
    exact HX.out
  have hcp2 : ∀ ty dc, (Builtin.copy_ #[25, 25] ty #[.slice (some ⟨g, i * 2, none⟩) (n + 1 - i) dc, .slice (some ⟨N, 0, none⟩) 1 cx]).run Tryz.prog W1 = .ok (goInt (1 : Nat)) (W1.setCells g (i * 2) (bc y)) := fun ty dc =>
    run_copy_m W1 _ _ ty 93 g (i * 2) (n + 1 - i) dc ⟨N, 0, none⟩ 1 cx 2 1 (bc y) Tryz.underlying25 hsz (by simp only [Nat.min_def]; split <;> omega) (bc_len y)
      (fun j v hj => by rw [add_plain']; simp only [World.cell?, hx1]; simpa using hj)
      (fun j hj => hov2.some _ (by rw [bc_len] at hj; omega)) (fun j hj => hov2.thaw _) (fun v hv => bc_one y v hv)
  have HO3 := Lib.hid (hov2.put bc_len i [y] (by simp; rw [HN.out]; omega))
  have mixed : Tryz.prog.follows .mixedOrders = true := by kernel_rfl
  clear hov2 hHd hdl hsz hx1 hW1
  go_enter Tryz.func223, Tryz.ntmps223
  go_wp2_with (simp only [hov1])
  go_region_law_o (refine step_copy_runI rfl _ _ 25 25 rfl _ _ (by simp [Act.eval, Act.put]) (by simp [Act.eval, Act.put]) (hcp1 _ _ _) ?_)
  go_wp2_with (at_builtin; refine wpList_copy_runI _ rfl _ _ 25 25 rfl _ _ rfl rfl (hcp2 _ _) ?_)
  go_ret
  refine ⟨rfl, ?_, by rw [HW1.out]⟩
  have l1 : (xs.take (i + 1)).length = i + 1 := by rw [List.length_take, HN.out]; omega
  have e1 : (xs.take (i + 1) ++ xs.drop i).take i = xs.take i := by
    rw [List.take_append_of_le_length (by omega), List.take_take, Nat.min_eq_left (by omega)]
  have e2 : (xs.take (i + 1) ++ xs.drop i).drop (i + 1) = xs.drop i := by
    rw [List.drop_append_of_le_length (by omega), List.drop_of_length_le (by omega), List.nil_append]
  have h9 := HO3.out
  rw [List.length_singleton, e1, e2, List.append_assoc] at h9
  simpa using h9
end Go.Proofs.YtoeklnmmnmmjeaaGreat.crush

namespace Go.Proofs.YtoeklnmmnmmjeaaGreat.crush
open Go.RowKit
open Go.Proofs.YtoeklnmmnmmjeaaGreat.kit Go.Proofs.YtoeklnmmnmmjeaaGreat.own
set_option linter.unusedVariables false

set_option maxHeartbeats 8000000 in
set_option maxRecDepth 100000 in
theorem insGrow_any (xs : List BanV) (y : BanV) (g cap i : Nat) (w : World) (h : OwnAt bc 2 93 w g cap xs) (hi : i < xs.length) (hroom : cap < xs.length + 1) (hl : xs.length ≤ 64) (N T cx : Nat) (hx : w.heap[N]? = some (.cells (bc y).toArray T (0, 0))) :
    Calls Tryz.prog 223 #[.slice (some ⟨g, 0, none⟩) xs.length cap, .int .i64 i, .slice (some ⟨N, 0, none⟩) 1 cx] w fun e w' => ∃ G, e = .returned (.slice (some ⟨w.heap.size, 0, none⟩) (xs.length + 1) G) ∧ OwnAt bc 2 93 w' w.heap.size G (xs.take i ++ y :: xs.drop i) ∧ Below w.heap.size w w' := by
  obtain ⟨n, hn⟩ : ∃ n, xs.length = n := ⟨_, rfl⟩
  have HN := Lib.hid hn
  have hlt := h.lt
  have hNlt : N < w.heap.size := (Array.getElem?_eq_some_iff.1 hx).1
  have hxc : ∀ t v, t < n * 2 → (xs.flatMap bc)[t]? = some v → w.cell? ⟨g, t, none⟩ = some v := fun t v ht hv => h.cells t v (by rw [hn]; exact ht) hv
  rw [hn] at hi hroom hl ⊢
  obtain ⟨i0, hi0, hz0, hzs, hzb⟩ := info_parts infoBan
  have hsz : (Tryz.prog.info? 93).map (·.size) = some 2 := by kernel_rfl
  have e0 : xs.flatMap bc = (xs.take i).flatMap bc ++ (xs.drop i).flatMap bc := by rw [← List.flatMap_append, List.take_append_drop]
  have el : ((xs.take i).flatMap bc).length = i * 2 := by rw [flat_len bc_len, List.length_take, HN.out, Nat.min_eq_left (by omega)]
  have hdl : ((xs.drop i).flatMap bc).length = (n - i) * 2 := by rw [flat_len bc_len, List.length_drop, HN.out]
  have hold : (Builtin.firstCells i0.size i (.slice (some ⟨g, 0, none⟩) i cap)).run Tryz.prog w.drew = .ok ((xs.take i).flatMap bc).toArray w.drew := by
    rw [hzs]
    exact run_firstCells_some w.drew 2 i ⟨g, 0, none⟩ i cap _ el (fun j v hj => by
      have hj2 : j < i * 2 := by rw [← el]; exact (List.getElem?_eq_some_iff.1 hj).1
      rw [add_plain', Nat.zero_add]
      exact hxc j v (by omega) (by rw [e0, List.getElem?_append_left (by rw [el]; exact hj2)]; exact hj))
  have hik : i + (n + 1 - i) = n + 1 := by omega
  have hkk : (n : Int) + 1 - (i : Int) = ((n + 1 - i : Nat) : Int) := by omega
  obtain ⟨G, hG⟩ : ∃ G, grownCap w (n + 1) cap 93 = G := ⟨_, rfl⟩
  obtain ⟨W1, hW1⟩ : ∃ W1, w.drew.alloc (.cells (((xs.take i).flatMap bc).toArray ++ Builtin.zeroCells (Value.agg #[.int .i64 0, .int .i64 0]).cells (n + 1 - i) ++ Builtin.zeroCells (Value.agg #[.int .i64 0, .int .i64 0]).cells (G - (n + 1))) 93) = W1 := ⟨_, rfl⟩
  have hrz : ∀ ty, (Builtin.append_ #[25, 3] ty #[.slice (some ⟨g, 0, none⟩) i cap, .int .i64 ((n : Int) + 1 - (i : Int))]).run Tryz.prog w = .ok (.slice (some ⟨w.heap.size, 0, none⟩) (n + 1) G) W1 := fun ty => by
    have h := Lib.run_append_grow_zeros w 25 3 ty 93 i0 _ .i64 .i64 Tryz.underlying25 Tryz.underlying3 hi0 hz0 (some ⟨g, 0, none⟩) i cap _ hold (n + 1 - i) (by omega) (by omega) (by omega) (by omega) (by rw [hzb]; omega) (by rw [hzb, hik]; exact growslice_fits (by omega) (by omega))
    rw [hik, hG, hW1] at h
    rw [hkk]
    exact h
  have hGn : n + 1 ≤ G := by rw [← hG]; exact grownCap_ge w _ _ _
  have hG63 : G ≤ maxLen := by rw [← hG]; exact grownCap_le_maxLen w (n + 1) cap _ (by unfold maxLen; omega)
  have hbel : Below w.heap.size w W1 := by rw [← hW1]; exact (below_drew (Below.refl _ w)).alloc (Nat.le_refl _) _
  have hO1 : OwnAt bc 2 93 W1 w.heap.size G (xs.take i) := by
    have hl1 : (xs.take i).length = i := by rw [List.length_take, HN.out, Nat.min_eq_left (by omega)]
    refine ⟨⟨_, by rw [← hW1]; exact alloc_at w.drew _, ?_, ?_⟩, by omega, hG63⟩
    · rw [Array.size_append, Array.size_append, size_zeroCells, size_zeroCells, List.size_toArray, el, show (Value.agg #[.int .i64 0, .int .i64 0]).cells.size = 2 from rfl]; omega
    · rw [hl1, Array.toList_append, Array.toList_append, List.append_assoc, List.take_append_of_le_length (by simp [el]), List.take_of_length_le (by simp [el])]
  have hO2 := hO1.over bc_len i [y] (by rw [List.length_take, HN.out]; omega) (by rw [List.length_take]; simp; omega) (by simp; omega)
  have hcell1 : ∀ b j v, b < w.heap.size → w.cell? ⟨b, j, none⟩ = some v → W1.cell? ⟨b, j, none⟩ = some v := fun b j v hb hv => (hbel.cell (p := ⟨b, j, none⟩) hb).trans hv
  have hx1 : W1.heap[N]? = some (.cells (bc y).toArray T (0, 0)) := (hbel.block N hNlt).trans hx
  have hcpA : ∀ ty dc, (Builtin.copy_ #[25, 25] ty #[.slice (some ⟨w.heap.size, i * 2, none⟩) (n + 1 - i) dc, .slice (some ⟨N, 0, none⟩) 1 cx]).run Tryz.prog W1 = .ok (goInt (1 : Nat)) (W1.setCells w.heap.size (i * 2) (bc y)) := fun ty dc =>
    run_copy_m W1 _ _ ty 93 w.heap.size (i * 2) (n + 1 - i) dc ⟨N, 0, none⟩ 1 cx 2 1 (bc y) Tryz.underlying25 hsz (by simp only [Nat.min_def]; split <;> omega) (bc_len y)
      (fun j v hj => by rw [add_plain']; simp only [World.cell?, hx1]; simpa using hj)
      (fun j hj => hO1.some _ (by rw [bc_len] at hj; omega)) (fun j hj => hO1.thaw _) (fun v hv => bc_one y v hv)
  obtain ⟨W2, hW2⟩ : ∃ W2, W1.setCells w.heap.size (i * 2) (bc y) = W2 := ⟨_, rfl⟩
  have hfy : [y].flatMap bc = bc y := by simp
  rw [hfy, hW2] at hO2
  simp only [hW2] at hcpA
  have hbel2 : Below w.heap.size w W2 := by rw [← hW2]; exact Below.setCells hbel (Nat.le_refl _) _ _
  have hO2d : OwnAt bc 2 93 W2.drew w.heap.size G ((xs.take i).take i ++ [y]) := hO2.block rfl
  have hl2 : ((xs.take i).take i ++ [y]).length = i + 1 := by simp; omega
  have hcpB : ∀ ty dc sc, (Builtin.copy_ #[25, 25] ty #[.slice (some ⟨w.heap.size, (i + 1) * 2, none⟩) (n - i) dc, .slice (some ⟨g, i * 2, none⟩) (n - i) sc]).run Tryz.prog W2.drew = .ok (goInt ((n - i : Nat) : Nat)) (W2.drew.setCells w.heap.size ((i + 1) * 2) ((xs.drop i).flatMap bc)) := fun ty dc sc =>
    run_copy_m W2.drew _ _ ty 93 w.heap.size ((i + 1) * 2) (n - i) dc ⟨g, i * 2, none⟩ (n - i) sc 2 (n - i) ((xs.drop i).flatMap bc) Tryz.underlying25 hsz (by simp only [Nat.min_def]; split <;> omega) hdl
      (fun j v hj => by
        have hj2 : j < (n - i) * 2 := by rw [← hdl]; exact (List.getElem?_eq_some_iff.1 hj).1
        rw [add_plain']
        have := hxc (i * 2 + j) v (by omega) (by rw [e0, List.getElem?_append_right (by rw [el]; omega), el, Nat.add_sub_cancel_left]; exact hj)
        exact (hbel2.cell (p := ⟨g, i * 2 + j, none⟩) hlt).trans this)
      (fun j hj => hO2d.some _ (by rw [hdl] at hj; omega)) (fun j hj => hO2d.thaw _)
      (fun v hv => by
        obtain ⟨x, _, hx⟩ := List.mem_flatMap.1 hv
        exact bc_one x v hx)
  have HO3 := Lib.hid (hO2d.over bc_len (i + 1) (xs.drop i) (by rw [hl2]; exact Nat.le_refl _) (by rw [hl2]; omega) (by rw [List.length_drop, HN.out]; omega))
  have HBl := Lib.hid (Below.setCells (below_drew hbel2) (Nat.le_refl w.heap.size) ((i + 1) * 2) ((xs.drop i).flatMap bc))
  have HL2 := Lib.hid hl2
  have HI := Lib.hid hi
  have hz1 : ¬ ((1 : Int) = 0) := by omega
  have hz2 : ¬ ((i : Int) = (n : Int)) := by omega
  have hz3 : (cap : Int) < (n : Int) + 1 := by omega
  have hw1 : IntKind.i64.wrap ((i : Int) + 1) = (i : Int) + 1 := by rw [IntKind.wrap_i64]; omega
  have hb1 : (0 : Int) ≤ (i : Int) + 1 := by omega
  have hin : i ≤ n := by omega
  have htn : ((i : Int) + 1).toNat = i + 1 := by omega
  have hb3 : (i : Int) ≤ (n : Int) := by omega
  have hGi : ¬ (G = i) := by omega
  have hGim : ¬ (G = i + 1) := by omega
  have hle : n ≤ cap := by have := h.le; omega
  have hci : ¬ (cap = i) := by omega
  unfold maxLen at hG63
  have mixed : Tryz.prog.follows .mixedOrders = true := by kernel_rfl
  clear hO1 hO2 hO2d hl2 hbel hbel2 hW1 hW2 hold hxc e0 el hdl hx1 hcell1 hG hn h hx hfy hsz hi0 hz0 hzs hzb hkk hik
  go_enter Tryz.func223, Tryz.ntmps223
  go_wp2_with (first
    | (at_builtin; refine Lib.wpList_append_run _ rfl _ _ _ _ rfl _ _ rfl rfl _ _ (hrz _) ?_)
    | (at_builtin; refine wpList_copy_runI _ rfl _ _ 25 25 rfl _ _ rfl rfl (hcpA _ _) ?_))
  go_region_law_o (refine step_copy_runI rfl _ _ 25 25 rfl _ _ (by simp [Act.eval, Act.put]) (by simp [Act.eval, Act.put]) (hcpB _ _ _) ?_)
  go_wp2
  go_ret
  refine ⟨_, rfl, ?_, HBl.out⟩
  have h9 := HO3.out
  rw [List.take_of_length_le (by rw [HL2.out]; exact Nat.le_refl _), List.take_take, Nat.min_self, List.append_assoc] at h9
  simpa using h9
end Go.Proofs.YtoeklnmmnmmjeaaGreat.crush

namespace Go.Proofs.YtoeklnmmnmmjeaaGreat.crush
open Go.RowKit
open Go.Proofs.YtoeklnmmnmmjeaaGreat.kit Go.Proofs.YtoeklnmmnmmjeaaGreat.own
set_option linter.unusedVariables false

theorem kept_set {B : Nat} {e : TypeId} {w w' : World} (h : Kept B e w w') {g : Nat} {cur : Array Value} (hg : w.heap[g]? = some (.cells cur e (0, 0))) (hB : B ≤ g) (o : Nat) (vs : List Value) : Kept B e w (w'.setCells g o vs) := by
  have h2 := Below.setCells h.toBelow hB o vs
  refine ⟨h2.os, h2.tape, h2.output, h2.size, fun k hk => h2.block k hk, fun k hk hne => ?_⟩
  have hkg : k ≠ g := fun e => by subst e; exact hne _ _ hg
  rw [heap_setCells_other g _ _ _ _ hkg]
  exact h.other k hk hne

set_option maxHeartbeats 4000000 in
theorem ins_any (v : Value) (xs : List BanV) (y : BanV) (i : Nat) (B : Nat → Prop) (w : World) (h : OwnP bc 2 93 w B v xs) (hB : In B w) (N T : Nat) (hx : w.heap[N]? = some (.cells (bc y).toArray T (0, 0))) (hN : v.ownBlock ≠ some N) (hi : i ≤ xs.length) (hl : xs.length ≤ 64) :
    Calls Tryz.prog 223 #[v, .int .i64 i, .slice (some ⟨N, 0, none⟩) 1 1] w (InsO B (xs.take i ++ y :: xs.drop i) w) := by
  have hNl : N < w.heap.size := (Array.getElem?_eq_some_iff.1 hx).1
  rcases Nat.lt_or_ge i xs.length with h1 | h1
  · have hfar := h.2
    rcases h.1.at with ⟨_, e2⟩ | ⟨g, cap, rfl, hg, hat⟩
    · rw [e2] at h1; exact absurd h1 (Nat.not_lt_zero _)
    · obtain ⟨cur, hgc, -⟩ := hat.ex
      have hne : N ≠ g := fun e => hN (by subst e; rfl)
      rcases Nat.lt_or_ge cap (xs.length + 1) with h2 | h2
      · refine (insGrow_any xs y g cap i w hat h1 h2 hl N T 1 hx).mono ?_
        rintro e w' ⟨G, rfl, ho, hb⟩
        have hlen : (xs.take i ++ y :: xs.drop i).length = xs.length + 1 := by simp; omega
        refine ⟨_, rfl, ⟨by have := ho.own bc_len (Nat.zero_le _); rwa [hlen] at this, fun b hb2 hb3 => ?_⟩, Kept.of_below (Nat.zero_le _) hb, Far.of hb hB⟩
        have e1 : w.heap.size = b := by simpa [Value.ownBlock] using hb2
        have := hB b hb3
        omega
      · refine (insMid_any xs y g cap i w hat h1 h2 hl N T 1 hx hne).mono ?_
        rintro e w' ⟨rfl, ho, hw⟩
        have hlen : (xs.take i ++ y :: xs.drop i).length = xs.length + 1 := by simp; omega
        refine ⟨_, rfl, ⟨by have := ho.own bc_len (Nat.zero_le _); rwa [hlen] at this, fun b hb2 => hfar b (by simpa [Value.ownBlock] using hb2)⟩, ?_, ?_⟩
        · rw [hw]
          exact kept_set (kept_set (Kept.refl 0 _ w).drew hgc (Nat.zero_le _) _ _) hgc (Nat.zero_le _) _ _
        · rw [hw]
          exact ((Far.refl B w).drew.setCells (hfar g rfl) _ _).setCells (hfar g rfl) _ _
  · obtain rfl : i = xs.length := by omega
    have hs : Sl bc 2 w (.slice (some ⟨N, 0, none⟩) 1 1) [y] := by
      refine ⟨by simp, _, _, rfl, fun h => (by cases h), fun _ => ⟨N, 0, rfl, hNl, fun j hj t v hv => ?_⟩⟩
      have hj0 : j = 0 := by simp at hj; omega
      subst hj0
      simp only [World.cell?, hx]
      simpa using hv
    have := insEnd_any v xs y B w h hB _ hs hl
    rw [List.take_of_length_le (Nat.le_refl _), List.drop_of_length_le (Nat.le_refl _)]
    exact this
end Go.Proofs.YtoeklnmmnmmjeaaGreat.crush

namespace Go.Proofs.YtoeklnmmnmmjeaaGreat.crush
open Go.RowKit
open Go.Proofs.YtoeklnmmnmmjeaaGreat.kit Go.Proofs.YtoeklnmmnmmjeaaGreat.own
set_option linter.unusedVariables false

def banV (c : IncV) : BanV := ⟨c.client, c.num⟩
def posB (xs : List BanV) (y : BanV) : Nat := (xs.takeWhile fun x => decide (ordB x y < 0)).length
def banE (y : BanV) (m : MapV) : MapV × Bool := if atBan m.bans y (posB m.bans y) || decide (64 ≤ m.bans.length) then (m, false) else (⟨m.epoch, m.hosts, m.osds, m.pools, m.bans.take (posB m.bans y) ++ y :: m.bans.drop (posB m.bans y)⟩, true)
theorem posB_le (xs : List BanV) (y : BanV) : posB xs y ≤ xs.length := by
  unfold posB
  exact List.Sublist.length_le (List.takeWhile_sublist _)

theorem SheetG.bans {U w' : World} {B : Nat → Prop} {S g cap : Nat} {m : MapV} (h : SheetG U B S g cap m) {v' : Value} {ps : List BanV} (hk : Kept 0 93 U w') (ho : OwnP bc 2 93 w' B v' ps) :
    SheetG (w'.setCell ⟨S, 4, none⟩ v') B S g cap ⟨m.epoch, m.hosts, m.osds, m.pools, ps⟩ := by
  obtain ⟨h0, hg, vh, vp, vb, h1, h2, h3, h4, h5⟩ := h
  have hx := hk.box (by decide) h1
  obtain ⟨cur, hc, -⟩ := h3.ex
  have hne : g ≠ S := fun e => by subst e; unfold MBox at h1; rw [h1] at hc; cases hc
  have hko : ∀ {α : Type} {enc : α → List Value} {k e : Nat} {v : Value} {xs : List α}, OwnP enc k e U B v xs → e ≠ 93 → OwnP enc k e w' B v xs := by
    intro α enc k e v xs h hne
    obtain ⟨⟨q1, q2⟩, q3⟩ := id h
    refine ⟨⟨q1, ?_⟩, q3⟩
    rcases q2 with ⟨rfl, h0⟩ | ⟨g, cap, cur, rfl, hB, hg, hr⟩
    · exact .inl ⟨rfl, h0⟩
    · refine .inr ⟨g, cap, cur, rfl, hB, (hk.other g (Array.getElem?_eq_some_iff.1 hg).1 (fun c f e2 => ?_)).trans hg, hr⟩
      rw [hg] at e2
      injection e2 with e3
      injection e3 with _ e4
      exact hne e4
  have h3' : OwnAt oc 4 74 w' g cap m.osds := by
    obtain ⟨cur, q1, q2, q3⟩ := h3.ex
    exact ⟨⟨cur, hk.box (by decide) q1, q2, q3⟩, h3.le, h3.max⟩
  exact ⟨h0, hg, vh, vp, v', heap_setCell_same w' S 4 _ _ v' hx, (hko h2 (by decide)).far hx (by decide) _ _, h3'.block (heap_setCell_other _ _ _ _ hne), (hko h4 (by decide)).far hx (by decide) _ _, ho.far hx (by decide) _ _⟩

set_option maxHeartbeats 16000000 in
set_option maxRecDepth 100000 in
theorem ban_any (c : IncV) (B : Nat → Prop) (S g cap : Nat) (m : MapV) (w : World) (h : SheetG w B S g cap m) (hB : In B w) (hl : m.bans.length ≤ 64) (hr : ∀ k (hk : k < m.bans.length), ordB m.bans[k] (banV c) < 0 ↔ k < posB m.bans (banV c)) :
    Calls Tryz.prog 200 #[.pointer (some ⟨S, 0, none⟩), c.val] w (StO B S g cap (banE (banV c) m) w) := by
  have hb := below_new w (.cells #[.int .i64 c.kind, .int .i64 c.osd, .int .i64 c.client, .int .i64 c.num, .int .i64 c.pool.size, .int .i64 c.pool.min, .int .i64 c.pool.pgs, .int .i64 c.pool.dom] 31)
  have hx := ibx_new w c
  have hg := h.keep hb
  have HBa := Lib.hid (fun u => banOf_any c u)
  have hbs := fun v u (hu : Sl bc 2 u v m.bans) => bs_any v m.bans (banV c) (posB m.bans (banV c)) u hu (posB_le _ _) hr (by omega)
  have hE : banE (banV c) m = if atBan m.bans (banV c) (posB m.bans (banV c)) || decide (64 ≤ m.bans.length) then (m, false) else (⟨m.epoch, m.hosts, m.osds, m.pools, m.bans.take (posB m.bans (banV c)) ++ banV c :: m.bans.drop (posB m.bans (banV c))⟩, true) := rfl
  have hpl := posB_le m.bans (banV c)
  generalize banE (banV c) m = R at hE ⊢
  generalize posB m.bans (banV c) = ps at hbs hE hpl
  generalize atBan m.bans (banV c) ps = q at hbs hE
  clear hr
  obtain ⟨k, o, cl, n, a, b, p, d⟩ := c
  unfold IncV.val at HBa ⊢
  simp only [banV, bc] at hb hx hg HBa hbs hE ⊢
  have HBs := Lib.hid hbs
  have HE := Lib.hid hE
  have HBB := Lib.hid hB
  obtain ⟨W, hW⟩ : ∃ W, w.alloc (.cells #[.int .i64 k, .int .i64 o, .int .i64 cl, .int .i64 n, .int .i64 a, .int .i64 b, .int .i64 p, .int .i64 d] 31) = W := ⟨_, rfl⟩
  rw [hW] at hb hg
  have hx2 : IBx W w.heap.size ⟨k, o, cl, n, ⟨a, b, p, d⟩⟩ := by rw [← hW]; exact hx
  have HB := Lib.hid hb; have HX := Lib.hid hx2; have HG := Lib.hid hg
  obtain ⟨-, -, vh, vp, vb, hm, -, -, -, hp⟩ := hg
  obtain ⟨ap, cp, rfl⟩ := hp.slice
  have HM := Lib.hid hm; have HP := Lib.hid hp
  obtain ⟨L, hL⟩ : ∃ L, m.bans.length = L := ⟨_, rfl⟩
  have HL := Lib.hid hL
  rw [hL] at hl hpl
  have HC1 := Lib.hid (fun u (hu : Below W.heap.size W u) => (HX.out.keep hu).cells)
  have HM1 := Lib.hid (fun u (hu : Below W.heap.size W u) => (HM.out.keep hu).cells.2.2.2.2)
  rw [hL] at HM1
  simp only at HC1
  have HD := Lib.hid (below_drew (Below.refl W.heap.size W))
  have s0 := HC1.out _ HD.out
  have s1 := HM1.out _ HD.out
  clear hx hx2 hb hB hm hp h hL hbs hE
  have mixed : Tryz.prog.follows .mixedOrders = true := by kernel_rfl
  go_enter Tryz.func200, Tryz.ntmps200
  go_upto_region 1 with fail
  clear hW
  go_region_held3 (fun u => (u.cell? ⟨w.heap.size, 0, none⟩ = some (.int .i64 k) ∧ u.cell? ⟨w.heap.size, 1, none⟩ = some (.int .i64 o) ∧ u.cell? ⟨w.heap.size, 2, none⟩ = some (.int .i64 cl) ∧ u.cell? ⟨w.heap.size, 3, none⟩ = some (.int .i64 n) ∧ u.cell? ⟨w.heap.size, 4, none⟩ = some (.int .i64 a) ∧ u.cell? ⟨w.heap.size, 5, none⟩ = some (.int .i64 b) ∧ u.cell? ⟨w.heap.size, 6, none⟩ = some (.int .i64 p) ∧ u.cell? ⟨w.heap.size, 7, none⟩ = some (.int .i64 d)) ∧ u.cell? ⟨S, 4, none⟩ = some (.slice ap L cp))
    (first | exact ⟨s0, s1⟩ | exact ⟨HC1.out _ HB5.out, HM1.out _ HB5.out⟩ | exact ⟨HC1.out _ HB4.out, HM1.out _ HB4.out⟩)
    (first
      | (go_at_call 76; refine (HBa.out _).mono ?_; rintro e w4 ⟨rfl, hb⟩; have HB4 : Hid (Below W.heap.size W w4) := Lib.hid (HD.out.trans (hb.mono HD.out.size)); clear hb)
      | (go_at_call 222; refine (HBs.out _ w4 (by have h5 := (HP.out.below HB4.out).read bc_len; rw [HL.out] at h5; exact h5)).mono ?_; rintro e w5 ⟨rfl, hb⟩; have HB5 : Hid (Below W.heap.size W w5) := Lib.hid (HB4.out.trans (hb.mono HB4.out.size)); clear hb))
  clear s0 s1
  have s0 := HC1.out _ HB5.out
  have s1 := HM1.out _ HB5.out
  have HG5 := Lib.hid (HG.out.keep HB5.out)
  have HBw := Lib.hid ((Far.of HB.out HBB.out).trans (Far.of HB5.out (HBB.out.mono HB.out.size)))
  cases q with
  | true =>
    go_wp2
    go_ret
    rw [HE.out, Bool.true_or, if_pos rfl]
    exact ⟨rfl, HG5.out, HBw.out⟩
  | false =>
    rw [Bool.false_or] at HE
    by_cases h64 : 64 ≤ L
    · have h64' : (64 : Int) ≤ L := by omega
      go_wp2
      go_ret
      rw [HE.out, HL.out, decide_eq_true h64, if_pos rfl]
      exact ⟨rfl, HG5.out, HBw.out⟩
    · have h64' : ¬ (64 : Int) ≤ L := by omega
      have HE2 := Lib.hid (by have h5 := HE.out; rw [HL.out, decide_eq_false h64, if_neg (by decide)] at h5; exact h5)
      go_upto_region 4 with fail
      clear s0 s1
      have HDD := Lib.hid (HB5.out.trans ((below_drew (Below.refl w5.heap.size w5)).mono HB5.out.size))
      have s0 := HC1.out _ HDD.out
      have s1 := HM1.out _ HDD.out
      have HIn : Hid (∀ u, Below W.heap.size W u → Calls Tryz.prog 223 #[.slice ap L cp, .int .i64 ps, .slice (some ⟨u.heap.size, 0, none⟩) 1 1] (u.alloc (.cells #[.int .i64 cl, .int .i64 n] 93)) (InsO B (m.bans.take ps ++ ⟨cl, n⟩ :: m.bans.drop ps) (u.alloc (.cells #[.int .i64 cl, .int .i64 n] 93)))) := Lib.hid (fun u hu => by
        have h5 := ins_any (.slice ap m.bans.length cp) m.bans ⟨cl, n⟩ ps B (u.alloc (.cells #[.int .i64 cl, .int .i64 n] 93)) ((HP.out.below hu).below (below_new u _)) (HBB.out.mono (by have h2 := HB.out.size; have h3 := hu.size; simp; omega)) u.heap.size 93 (alloc_at u _) (fun e => absurd ((HP.out.below hu).1.blk _ e).2 (Nat.lt_irrefl _)) (by rw [HL.out]; exact hpl) (by rw [HL.out]; exact hl)
        rw [HL.out] at h5
        exact h5)
      --R4
      refine wp_region_held_drew (S := fun _ => True) (by kernel_rfl) (trivial) (fun hHeld => ?_)
      refine wpAnyH_take (i := 0) (oi := { dst := some 28, op := Op.move (Operand.tmp 0), type := 110, pos := "sheet.go:98", after := #[], guard := none }) (v := ?_) rfl (by kernel_rfl) (by kernel_rfl) (by kernel_rfl) (fun _ _ _ h => h) (Or.inl ⟨by rfl, ?_⟩) hHeld ?_
      rotate_left 1
      · intro W hSw
        (try dsimp only at hSw)
        go_simp
        try with_reducible rfl
      try simp only [Act.put, List.setIfInBounds_toArray, List.set_cons_zero, List.set_cons_succ]
      refine wpAnyH_take (i := 1) (oi := { dst := some 29, op := Op.move (Operand.tmp 0), type := 110, pos := "sheet.go:98", after := #[], guard := none }) (v := ?_) rfl (by kernel_rfl) (by kernel_rfl) (by kernel_rfl) (fun _ _ _ h => h) (Or.inl ⟨by rfl, ?_⟩) hHeld ?_
      rotate_left 1
      · intro W hSw
        (try dsimp only at hSw)
        go_simp
        try with_reducible rfl
      try simp only [Act.put, List.setIfInBounds_toArray, List.set_cons_zero, List.set_cons_succ]
      refine wpAnyH_take (i := 2) (oi := { dst := some 30, op := Op.nilCheck (Operand.tmp 29), type := 0, pos := "sheet.go:98", after := #[{ on := 1, ground := Ground.data }], guard := none }) (v := ?_) rfl (by kernel_rfl) (by kernel_rfl) (by kernel_rfl) (fun _ _ _ h => h) (Or.inl ⟨by rfl, ?_⟩) hHeld ?_
      rotate_left 1
      · intro W hSw
        (try dsimp only at hSw)
        go_simp
        try with_reducible rfl
      try simp only [Act.put, List.setIfInBounds_toArray, List.set_cons_zero, List.set_cons_succ]
      refine wpAnyH_take (i := 3) (oi := { dst := some 31, op := Op.fieldAddr 109 (Operand.tmp 30) 0, type := 0, pos := "sheet.go:98", after := #[{ on := 2, ground := Ground.data }], guard := none }) (v := ?_) rfl (by kernel_rfl) (by kernel_rfl) (by kernel_rfl) (fun _ _ _ h => h) (Or.inl ⟨by rfl, ?_⟩) hHeld ?_
      rotate_left 1
      · intro W hSw
        (try dsimp only at hSw)
        go_simp
        try with_reducible rfl
      try simp only [Act.put, List.setIfInBounds_toArray, List.set_cons_zero, List.set_cons_succ]
      refine wpAnyH_take (i := 4) (oi := { dst := some 32, op := Op.fieldAddr 27 (Operand.tmp 31) 4, type := 0, pos := "sheet.go:98", after := #[{ on := 3, ground := Ground.data }], guard := none }) (v := ?_) rfl (by kernel_rfl) (by kernel_rfl) (by kernel_rfl) (fun _ _ _ h => h) (Or.inl ⟨by rfl, ?_⟩) hHeld ?_
      rotate_left 1
      · intro W hSw
        (try dsimp only at hSw)
        go_simp
        try with_reducible rfl
      try simp only [Act.put, List.setIfInBounds_toArray, List.set_cons_zero, List.set_cons_succ]
      refine wpAnyH_take (i := 6) (oi := { dst := some 34, op := Op.move (Operand.tmp 5), type := 3, pos := "sheet.go:98", after := #[], guard := none }) (v := ?_) rfl (by kernel_rfl) (by kernel_rfl) (by kernel_rfl) (fun _ _ _ h => h) (Or.inl ⟨by rfl, ?_⟩) hHeld ?_
      rotate_left 1
      · intro W hSw
        (try dsimp only at hSw)
        go_simp
        try with_reducible rfl
      try simp only [Act.put, List.setIfInBounds_toArray, List.set_cons_zero, List.set_cons_succ]
      refine wpAnyH_ready (rs := [5, 7]) (by kernel_rfl) (by simp) ?_
      refine AllReadyH.cons (o := { dst := some 33, op := Op.load 25 (Operand.tmp 32), type := 25, pos := "sheet.go:98", after := #[{ on := 4, ground := Ground.data }], guard := none }) rfl (fun K7 hK7 => ?_) ?_
      · go_simp
        refine hK7.out _ _ (trivial) (fun hHeld => ?_)
        clear hK7 K7
        try simp only [Act.put, List.setIfInBounds_toArray, List.set_cons_zero, List.set_cons_succ]
        refine wpAnyH_ready (rs := [7]) (by kernel_rfl) (by simp) ?_
        refine AllReadyH.cons (o := { dst := some 35, op := Op.load 31 (Operand.tmp 3), type := 31, pos := "sheet.go:98", after := #[], guard := none }) rfl (fun K7 hK7 => ?_) ?_
        · go_simp
          refine hK7.out _ _ (trivial) (fun hHeld => ?_)
          clear hK7 K7
          try simp only [Act.put, List.setIfInBounds_toArray, List.set_cons_zero, List.set_cons_succ]
          refine wpAnyH_ready (rs := [8]) (by kernel_rfl) (by simp) ?_
          refine AllReadyH.cons (o := { dst := some 36, op := Op.call { callee := Callee.value (Operand.func 76), args := #[Operand.tmp 35], argTypes := #[31] }, type := 93, pos := "sheet.go:98", after := #[{ on := 7, ground := Ground.data }], guard := none }) rfl (fun K7 hK7 => ?_) ?_
          · go_simp
            refine (HBa.out _).mono ?_
            rintro e w6 ⟨rfl, hb⟩
            have HB6 : Hid (Below W.heap.size W w6) := Lib.hid (HDD.out.trans (hb.mono HDD.out.size))
            clear hb s0 s1
            have s1 := HM1.out _ HB6.out
            have HB7 : Hid (Below W.heap.size W (w6.alloc (.cells #[.int .i64 cl, .int .i64 n] 93))) := Lib.hid (HB6.out.trans ((below_new w6 _).mono HB6.out.size))
            have s2 := HM1.out _ HB7.out
            try dsimp only
            refine hK7.out _ _ (trivial) (fun hHeld => ?_)
            clear hK7 K7
            try simp only [Act.put, List.setIfInBounds_toArray, List.set_cons_zero, List.set_cons_succ]
            refine wpAnyH_ready (rs := [9]) (by kernel_rfl) (by simp) ?_
            refine AllReadyH.cons (o := { dst := some 37, op := Op.buildSlice 25 1 #[(0, Operand.tmp 36)], type := 25, pos := "sheet.go:98", after := #[{ on := 8, ground := Ground.data }], guard := none }) rfl (fun K7 hK7 => ?_) ?_
            · go_simp
              refine hK7.out _ _ (trivial) (fun hHeld => ?_)
              clear hK7 K7
              try simp only [Act.put, List.setIfInBounds_toArray, List.set_cons_zero, List.set_cons_succ]
              refine wpAnyH_ready (rs := [10]) (by kernel_rfl) (by simp) ?_
              refine AllReadyH.cons (o := { dst := some 38, op := Op.call { callee := Callee.value (Operand.func 223), args := #[Operand.tmp 33, Operand.tmp 34, Operand.tmp 37], argTypes := #[25, 3, 25] }, type := 25, pos := "sheet.go:98", after := #[{ on := 5, ground := Ground.data }, { on := 6, ground := Ground.data }, { on := 9, ground := Ground.data }, { on := 8, ground := Ground.chain }], guard := none }) rfl (fun K7 hK7 => ?_) ?_
              · go_simp
                refine (HIn.out w6 HB6.out).mono ?_
                rintro e w8 ⟨v8, rfl, ho, hk, hfr⟩
                obtain ⟨a8, c8, rfl⟩ := ho.slice
                have HO8 := Lib.hid ho; have HK8 := Lib.hid hk; have HF8 := Lib.hid hfr
                have HX8 : Hid (MBox w8 S 109 m.epoch vh (.slice (some ⟨g, 0, none⟩) m.osds.length cap) vp (.slice ap m.bans.length cp)) := Lib.hid (hk.box (by decide) (HM.out.keep HB7.out))
                have s8 := HX8.out.cells.2.2.2.2
                have t8 := HX8.out.thaw 4
                clear ho hk hfr s1 s2
                try dsimp only
                refine hK7.out _ _ (trivial) (fun hHeld => ?_)
                clear hK7 K7
                try simp only [Act.put, List.setIfInBounds_toArray, List.set_cons_zero, List.set_cons_succ]
                refine wpAnyH_take (i := 11) (oi := { dst := some 39, op := Op.nilCheck (Operand.tmp 28), type := 0, pos := "sheet.go:98", after := #[{ on := 0, ground := Ground.data }, { on := 0, ground := Ground.phase }, { on := 1, ground := Ground.phase }, { on := 2, ground := Ground.phase }, { on := 3, ground := Ground.phase }, { on := 4, ground := Ground.phase }, { on := 5, ground := Ground.phase }, { on := 6, ground := Ground.phase }, { on := 7, ground := Ground.phase }, { on := 8, ground := Ground.phase }, { on := 9, ground := Ground.phase }, { on := 10, ground := Ground.phase }], guard := none }) (v := ?_) rfl (by kernel_rfl) (by kernel_rfl) (by kernel_rfl) (fun _ _ _ h => h) (Or.inl ⟨by rfl, ?_⟩) hHeld ?_
                rotate_left 1
                · intro W hSw
                  (try dsimp only at hSw)
                  go_simp
                  try with_reducible rfl
                try simp only [Act.put, List.setIfInBounds_toArray, List.set_cons_zero, List.set_cons_succ]
                refine wpAnyH_take (i := 12) (oi := { dst := some 40, op := Op.fieldAddr 109 (Operand.tmp 39) 0, type := 0, pos := "sheet.go:98", after := #[{ on := 11, ground := Ground.data }, { on := 0, ground := Ground.phase }, { on := 1, ground := Ground.phase }, { on := 2, ground := Ground.phase }, { on := 3, ground := Ground.phase }, { on := 4, ground := Ground.phase }, { on := 5, ground := Ground.phase }, { on := 6, ground := Ground.phase }, { on := 7, ground := Ground.phase }, { on := 8, ground := Ground.phase }, { on := 9, ground := Ground.phase }, { on := 10, ground := Ground.phase }], guard := none }) (v := ?_) rfl (by kernel_rfl) (by kernel_rfl) (by kernel_rfl) (fun _ _ _ h => h) (Or.inl ⟨by rfl, ?_⟩) hHeld ?_
                rotate_left 1
                · intro W hSw
                  (try dsimp only at hSw)
                  go_simp
                  try with_reducible rfl
                try simp only [Act.put, List.setIfInBounds_toArray, List.set_cons_zero, List.set_cons_succ]
                refine wpAnyH_take (i := 13) (oi := { dst := some 41, op := Op.fieldAddr 27 (Operand.tmp 40) 4, type := 0, pos := "sheet.go:98", after := #[{ on := 12, ground := Ground.data }, { on := 0, ground := Ground.phase }, { on := 1, ground := Ground.phase }, { on := 2, ground := Ground.phase }, { on := 3, ground := Ground.phase }, { on := 4, ground := Ground.phase }, { on := 5, ground := Ground.phase }, { on := 6, ground := Ground.phase }, { on := 7, ground := Ground.phase }, { on := 8, ground := Ground.phase }, { on := 9, ground := Ground.phase }, { on := 10, ground := Ground.phase }], guard := none }) (v := ?_) rfl (by kernel_rfl) (by kernel_rfl) (by kernel_rfl) (fun _ _ _ h => h) (Or.inl ⟨by rfl, ?_⟩) hHeld ?_
                rotate_left 1
                · intro W hSw
                  (try dsimp only at hSw)
                  go_simp
                  try with_reducible rfl
                try simp only [Act.put, List.setIfInBounds_toArray, List.set_cons_zero, List.set_cons_succ]
                refine wpAnyH_ready (rs := [14]) (by kernel_rfl) (by simp) ?_
                refine AllReadyH.cons (o := { dst := none, op := Op.store 25 (Operand.tmp 41) (Operand.tmp 38), type := 0, pos := "sheet.go:98", after := #[{ on := 13, ground := Ground.data }, { on := 10, ground := Ground.data }, { on := 10, ground := Ground.chain }, { on := 0, ground := Ground.phase }, { on := 1, ground := Ground.phase }, { on := 2, ground := Ground.phase }, { on := 3, ground := Ground.phase }, { on := 4, ground := Ground.phase }, { on := 5, ground := Ground.phase }, { on := 6, ground := Ground.phase }, { on := 7, ground := Ground.phase }, { on := 8, ground := Ground.phase }, { on := 9, ground := Ground.phase }, { on := 10, ground := Ground.phase }], guard := none }) rfl (fun K7 hK7 => ?_) ?_
                · go_simp
                  refine hK7.out _ _ (trivial) (fun hHeld => ?_)
                  clear hK7 K7
                  try simp only [Act.put, List.setIfInBounds_toArray, List.set_cons_zero, List.set_cons_succ]
                  refine wpAnyH_done (by kernel_rfl) ?_ _
                  clear hHeld
                  go_wp2_with fail
                  go_ret
                  rw [HE2.out]
                  have HO6 := HO8.out
                  rw [show (m.bans.take ps ++ (⟨cl, n⟩ : BanV) :: m.bans.drop ps).length = min ps m.bans.length + (m.bans.length - ps + 1) by simp] at HO6
                  exact ⟨rfl, (HG.out.keep HB7.out).bans HK8.out HO6, below_set1 (((Far.of HB.out HBB.out).trans (Far.of HB7.out (HBB.out.mono HB.out.size))).trans HF8.out) HG.out.1 _ _⟩
                exact AllReadyH.nil
              exact AllReadyH.nil
            exact AllReadyH.nil
          exact AllReadyH.nil
        exact AllReadyH.nil
      refine AllReadyH.cons (o := { dst := some 35, op := Op.load 31 (Operand.tmp 3), type := 31, pos := "sheet.go:98", after := #[], guard := none }) rfl (fun K7 hK7 => ?_) ?_
      · go_simp
        refine hK7.out _ _ (trivial) (fun hHeld => ?_)
        clear hK7 K7
        try simp only [Act.put, List.setIfInBounds_toArray, List.set_cons_zero, List.set_cons_succ]
        refine wpAnyH_ready (rs := [5, 8]) (by kernel_rfl) (by simp) ?_
        refine AllReadyH.cons (o := { dst := some 33, op := Op.load 25 (Operand.tmp 32), type := 25, pos := "sheet.go:98", after := #[{ on := 4, ground := Ground.data }], guard := none }) rfl (fun K7 hK7 => ?_) ?_
        · go_simp
          refine hK7.out _ _ (trivial) (fun hHeld => ?_)
          clear hK7 K7
          try simp only [Act.put, List.setIfInBounds_toArray, List.set_cons_zero, List.set_cons_succ]
          refine wpAnyH_ready (rs := [8]) (by kernel_rfl) (by simp) ?_
          refine AllReadyH.cons (o := { dst := some 36, op := Op.call { callee := Callee.value (Operand.func 76), args := #[Operand.tmp 35], argTypes := #[31] }, type := 93, pos := "sheet.go:98", after := #[{ on := 7, ground := Ground.data }], guard := none }) rfl (fun K7 hK7 => ?_) ?_
          · go_simp
            refine (HBa.out _).mono ?_
            rintro e w6 ⟨rfl, hb⟩
            have HB6 : Hid (Below W.heap.size W w6) := Lib.hid (HDD.out.trans (hb.mono HDD.out.size))
            clear hb s0 s1
            have s1 := HM1.out _ HB6.out
            have HB7 : Hid (Below W.heap.size W (w6.alloc (.cells #[.int .i64 cl, .int .i64 n] 93))) := Lib.hid (HB6.out.trans ((below_new w6 _).mono HB6.out.size))
            have s2 := HM1.out _ HB7.out
            try dsimp only
            refine hK7.out _ _ (trivial) (fun hHeld => ?_)
            clear hK7 K7
            try simp only [Act.put, List.setIfInBounds_toArray, List.set_cons_zero, List.set_cons_succ]
            refine wpAnyH_ready (rs := [9]) (by kernel_rfl) (by simp) ?_
            refine AllReadyH.cons (o := { dst := some 37, op := Op.buildSlice 25 1 #[(0, Operand.tmp 36)], type := 25, pos := "sheet.go:98", after := #[{ on := 8, ground := Ground.data }], guard := none }) rfl (fun K7 hK7 => ?_) ?_
            · go_simp
              refine hK7.out _ _ (trivial) (fun hHeld => ?_)
              clear hK7 K7
              try simp only [Act.put, List.setIfInBounds_toArray, List.set_cons_zero, List.set_cons_succ]
              refine wpAnyH_ready (rs := [10]) (by kernel_rfl) (by simp) ?_
              refine AllReadyH.cons (o := { dst := some 38, op := Op.call { callee := Callee.value (Operand.func 223), args := #[Operand.tmp 33, Operand.tmp 34, Operand.tmp 37], argTypes := #[25, 3, 25] }, type := 25, pos := "sheet.go:98", after := #[{ on := 5, ground := Ground.data }, { on := 6, ground := Ground.data }, { on := 9, ground := Ground.data }, { on := 8, ground := Ground.chain }], guard := none }) rfl (fun K7 hK7 => ?_) ?_
              · go_simp
                refine (HIn.out w6 HB6.out).mono ?_
                rintro e w8 ⟨v8, rfl, ho, hk, hfr⟩
                obtain ⟨a8, c8, rfl⟩ := ho.slice
                have HO8 := Lib.hid ho; have HK8 := Lib.hid hk; have HF8 := Lib.hid hfr
                have HX8 : Hid (MBox w8 S 109 m.epoch vh (.slice (some ⟨g, 0, none⟩) m.osds.length cap) vp (.slice ap m.bans.length cp)) := Lib.hid (hk.box (by decide) (HM.out.keep HB7.out))
                have s8 := HX8.out.cells.2.2.2.2
                have t8 := HX8.out.thaw 4
                clear ho hk hfr s1 s2
                try dsimp only
                refine hK7.out _ _ (trivial) (fun hHeld => ?_)
                clear hK7 K7
                try simp only [Act.put, List.setIfInBounds_toArray, List.set_cons_zero, List.set_cons_succ]
                refine wpAnyH_take (i := 11) (oi := { dst := some 39, op := Op.nilCheck (Operand.tmp 28), type := 0, pos := "sheet.go:98", after := #[{ on := 0, ground := Ground.data }, { on := 0, ground := Ground.phase }, { on := 1, ground := Ground.phase }, { on := 2, ground := Ground.phase }, { on := 3, ground := Ground.phase }, { on := 4, ground := Ground.phase }, { on := 5, ground := Ground.phase }, { on := 6, ground := Ground.phase }, { on := 7, ground := Ground.phase }, { on := 8, ground := Ground.phase }, { on := 9, ground := Ground.phase }, { on := 10, ground := Ground.phase }], guard := none }) (v := ?_) rfl (by kernel_rfl) (by kernel_rfl) (by kernel_rfl) (fun _ _ _ h => h) (Or.inl ⟨by rfl, ?_⟩) hHeld ?_
                rotate_left 1
                · intro W hSw
                  (try dsimp only at hSw)
                  go_simp
                  try with_reducible rfl
                try simp only [Act.put, List.setIfInBounds_toArray, List.set_cons_zero, List.set_cons_succ]
                refine wpAnyH_take (i := 12) (oi := { dst := some 40, op := Op.fieldAddr 109 (Operand.tmp 39) 0, type := 0, pos := "sheet.go:98", after := #[{ on := 11, ground := Ground.data }, { on := 0, ground := Ground.phase }, { on := 1, ground := Ground.phase }, { on := 2, ground := Ground.phase }, { on := 3, ground := Ground.phase }, { on := 4, ground := Ground.phase }, { on := 5, ground := Ground.phase }, { on := 6, ground := Ground.phase }, { on := 7, ground := Ground.phase }, { on := 8, ground := Ground.phase }, { on := 9, ground := Ground.phase }, { on := 10, ground := Ground.phase }], guard := none }) (v := ?_) rfl (by kernel_rfl) (by kernel_rfl) (by kernel_rfl) (fun _ _ _ h => h) (Or.inl ⟨by rfl, ?_⟩) hHeld ?_
                rotate_left 1
                · intro W hSw
                  (try dsimp only at hSw)
                  go_simp
                  try with_reducible rfl
                try simp only [Act.put, List.setIfInBounds_toArray, List.set_cons_zero, List.set_cons_succ]
                refine wpAnyH_take (i := 13) (oi := { dst := some 41, op := Op.fieldAddr 27 (Operand.tmp 40) 4, type := 0, pos := "sheet.go:98", after := #[{ on := 12, ground := Ground.data }, { on := 0, ground := Ground.phase }, { on := 1, ground := Ground.phase }, { on := 2, ground := Ground.phase }, { on := 3, ground := Ground.phase }, { on := 4, ground := Ground.phase }, { on := 5, ground := Ground.phase }, { on := 6, ground := Ground.phase }, { on := 7, ground := Ground.phase }, { on := 8, ground := Ground.phase }, { on := 9, ground := Ground.phase }, { on := 10, ground := Ground.phase }], guard := none }) (v := ?_) rfl (by kernel_rfl) (by kernel_rfl) (by kernel_rfl) (fun _ _ _ h => h) (Or.inl ⟨by rfl, ?_⟩) hHeld ?_
                rotate_left 1
                · intro W hSw
                  (try dsimp only at hSw)
                  go_simp
                  try with_reducible rfl
                try simp only [Act.put, List.setIfInBounds_toArray, List.set_cons_zero, List.set_cons_succ]
                refine wpAnyH_ready (rs := [14]) (by kernel_rfl) (by simp) ?_
                refine AllReadyH.cons (o := { dst := none, op := Op.store 25 (Operand.tmp 41) (Operand.tmp 38), type := 0, pos := "sheet.go:98", after := #[{ on := 13, ground := Ground.data }, { on := 10, ground := Ground.data }, { on := 10, ground := Ground.chain }, { on := 0, ground := Ground.phase }, { on := 1, ground := Ground.phase }, { on := 2, ground := Ground.phase }, { on := 3, ground := Ground.phase }, { on := 4, ground := Ground.phase }, { on := 5, ground := Ground.phase }, { on := 6, ground := Ground.phase }, { on := 7, ground := Ground.phase }, { on := 8, ground := Ground.phase }, { on := 9, ground := Ground.phase }, { on := 10, ground := Ground.phase }], guard := none }) rfl (fun K7 hK7 => ?_) ?_
                · go_simp
                  refine hK7.out _ _ (trivial) (fun hHeld => ?_)
                  clear hK7 K7
                  try simp only [Act.put, List.setIfInBounds_toArray, List.set_cons_zero, List.set_cons_succ]
                  refine wpAnyH_done (by kernel_rfl) ?_ _
                  clear hHeld
                  go_wp2_with fail
                  go_ret
                  rw [HE2.out]
                  have HO6 := HO8.out
                  rw [show (m.bans.take ps ++ (⟨cl, n⟩ : BanV) :: m.bans.drop ps).length = min ps m.bans.length + (m.bans.length - ps + 1) by simp] at HO6
                  exact ⟨rfl, (HG.out.keep HB7.out).bans HK8.out HO6, below_set1 (((Far.of HB.out HBB.out).trans (Far.of HB7.out (HBB.out.mono HB.out.size))).trans HF8.out) HG.out.1 _ _⟩
                exact AllReadyH.nil
              exact AllReadyH.nil
            exact AllReadyH.nil
          exact AllReadyH.nil
        refine AllReadyH.cons (o := { dst := some 36, op := Op.call { callee := Callee.value (Operand.func 76), args := #[Operand.tmp 35], argTypes := #[31] }, type := 93, pos := "sheet.go:98", after := #[{ on := 7, ground := Ground.data }], guard := none }) rfl (fun K7 hK7 => ?_) ?_
        · go_simp
          refine (HBa.out _).mono ?_
          rintro e w6 ⟨rfl, hb⟩
          have HB6 : Hid (Below W.heap.size W w6) := Lib.hid (HDD.out.trans (hb.mono HDD.out.size))
          clear hb s0 s1
          have s1 := HM1.out _ HB6.out
          have HB7 : Hid (Below W.heap.size W (w6.alloc (.cells #[.int .i64 cl, .int .i64 n] 93))) := Lib.hid (HB6.out.trans ((below_new w6 _).mono HB6.out.size))
          have s2 := HM1.out _ HB7.out
          try dsimp only
          refine hK7.out _ _ (trivial) (fun hHeld => ?_)
          clear hK7 K7
          try simp only [Act.put, List.setIfInBounds_toArray, List.set_cons_zero, List.set_cons_succ]
          refine wpAnyH_ready (rs := [5, 9]) (by kernel_rfl) (by simp) ?_
          refine AllReadyH.cons (o := { dst := some 33, op := Op.load 25 (Operand.tmp 32), type := 25, pos := "sheet.go:98", after := #[{ on := 4, ground := Ground.data }], guard := none }) rfl (fun K7 hK7 => ?_) ?_
          · go_simp
            refine hK7.out _ _ (trivial) (fun hHeld => ?_)
            clear hK7 K7
            try simp only [Act.put, List.setIfInBounds_toArray, List.set_cons_zero, List.set_cons_succ]
            refine wpAnyH_ready (rs := [9]) (by kernel_rfl) (by simp) ?_
            refine AllReadyH.cons (o := { dst := some 37, op := Op.buildSlice 25 1 #[(0, Operand.tmp 36)], type := 25, pos := "sheet.go:98", after := #[{ on := 8, ground := Ground.data }], guard := none }) rfl (fun K7 hK7 => ?_) ?_
            · go_simp
              refine hK7.out _ _ (trivial) (fun hHeld => ?_)
              clear hK7 K7
              try simp only [Act.put, List.setIfInBounds_toArray, List.set_cons_zero, List.set_cons_succ]
              refine wpAnyH_ready (rs := [10]) (by kernel_rfl) (by simp) ?_
              refine AllReadyH.cons (o := { dst := some 38, op := Op.call { callee := Callee.value (Operand.func 223), args := #[Operand.tmp 33, Operand.tmp 34, Operand.tmp 37], argTypes := #[25, 3, 25] }, type := 25, pos := "sheet.go:98", after := #[{ on := 5, ground := Ground.data }, { on := 6, ground := Ground.data }, { on := 9, ground := Ground.data }, { on := 8, ground := Ground.chain }], guard := none }) rfl (fun K7 hK7 => ?_) ?_
              · go_simp
                refine (HIn.out w6 HB6.out).mono ?_
                rintro e w8 ⟨v8, rfl, ho, hk, hfr⟩
                obtain ⟨a8, c8, rfl⟩ := ho.slice
                have HO8 := Lib.hid ho; have HK8 := Lib.hid hk; have HF8 := Lib.hid hfr
                have HX8 : Hid (MBox w8 S 109 m.epoch vh (.slice (some ⟨g, 0, none⟩) m.osds.length cap) vp (.slice ap m.bans.length cp)) := Lib.hid (hk.box (by decide) (HM.out.keep HB7.out))
                have s8 := HX8.out.cells.2.2.2.2
                have t8 := HX8.out.thaw 4
                clear ho hk hfr s1 s2
                try dsimp only
                refine hK7.out _ _ (trivial) (fun hHeld => ?_)
                clear hK7 K7
                try simp only [Act.put, List.setIfInBounds_toArray, List.set_cons_zero, List.set_cons_succ]
                refine wpAnyH_take (i := 11) (oi := { dst := some 39, op := Op.nilCheck (Operand.tmp 28), type := 0, pos := "sheet.go:98", after := #[{ on := 0, ground := Ground.data }, { on := 0, ground := Ground.phase }, { on := 1, ground := Ground.phase }, { on := 2, ground := Ground.phase }, { on := 3, ground := Ground.phase }, { on := 4, ground := Ground.phase }, { on := 5, ground := Ground.phase }, { on := 6, ground := Ground.phase }, { on := 7, ground := Ground.phase }, { on := 8, ground := Ground.phase }, { on := 9, ground := Ground.phase }, { on := 10, ground := Ground.phase }], guard := none }) (v := ?_) rfl (by kernel_rfl) (by kernel_rfl) (by kernel_rfl) (fun _ _ _ h => h) (Or.inl ⟨by rfl, ?_⟩) hHeld ?_
                rotate_left 1
                · intro W hSw
                  (try dsimp only at hSw)
                  go_simp
                  try with_reducible rfl
                try simp only [Act.put, List.setIfInBounds_toArray, List.set_cons_zero, List.set_cons_succ]
                refine wpAnyH_take (i := 12) (oi := { dst := some 40, op := Op.fieldAddr 109 (Operand.tmp 39) 0, type := 0, pos := "sheet.go:98", after := #[{ on := 11, ground := Ground.data }, { on := 0, ground := Ground.phase }, { on := 1, ground := Ground.phase }, { on := 2, ground := Ground.phase }, { on := 3, ground := Ground.phase }, { on := 4, ground := Ground.phase }, { on := 5, ground := Ground.phase }, { on := 6, ground := Ground.phase }, { on := 7, ground := Ground.phase }, { on := 8, ground := Ground.phase }, { on := 9, ground := Ground.phase }, { on := 10, ground := Ground.phase }], guard := none }) (v := ?_) rfl (by kernel_rfl) (by kernel_rfl) (by kernel_rfl) (fun _ _ _ h => h) (Or.inl ⟨by rfl, ?_⟩) hHeld ?_
                rotate_left 1
                · intro W hSw
                  (try dsimp only at hSw)
                  go_simp
                  try with_reducible rfl
                try simp only [Act.put, List.setIfInBounds_toArray, List.set_cons_zero, List.set_cons_succ]
                refine wpAnyH_take (i := 13) (oi := { dst := some 41, op := Op.fieldAddr 27 (Operand.tmp 40) 4, type := 0, pos := "sheet.go:98", after := #[{ on := 12, ground := Ground.data }, { on := 0, ground := Ground.phase }, { on := 1, ground := Ground.phase }, { on := 2, ground := Ground.phase }, { on := 3, ground := Ground.phase }, { on := 4, ground := Ground.phase }, { on := 5, ground := Ground.phase }, { on := 6, ground := Ground.phase }, { on := 7, ground := Ground.phase }, { on := 8, ground := Ground.phase }, { on := 9, ground := Ground.phase }, { on := 10, ground := Ground.phase }], guard := none }) (v := ?_) rfl (by kernel_rfl) (by kernel_rfl) (by kernel_rfl) (fun _ _ _ h => h) (Or.inl ⟨by rfl, ?_⟩) hHeld ?_
                rotate_left 1
                · intro W hSw
                  (try dsimp only at hSw)
                  go_simp
                  try with_reducible rfl
                try simp only [Act.put, List.setIfInBounds_toArray, List.set_cons_zero, List.set_cons_succ]
                refine wpAnyH_ready (rs := [14]) (by kernel_rfl) (by simp) ?_
                refine AllReadyH.cons (o := { dst := none, op := Op.store 25 (Operand.tmp 41) (Operand.tmp 38), type := 0, pos := "sheet.go:98", after := #[{ on := 13, ground := Ground.data }, { on := 10, ground := Ground.data }, { on := 10, ground := Ground.chain }, { on := 0, ground := Ground.phase }, { on := 1, ground := Ground.phase }, { on := 2, ground := Ground.phase }, { on := 3, ground := Ground.phase }, { on := 4, ground := Ground.phase }, { on := 5, ground := Ground.phase }, { on := 6, ground := Ground.phase }, { on := 7, ground := Ground.phase }, { on := 8, ground := Ground.phase }, { on := 9, ground := Ground.phase }, { on := 10, ground := Ground.phase }], guard := none }) rfl (fun K7 hK7 => ?_) ?_
                · go_simp
                  refine hK7.out _ _ (trivial) (fun hHeld => ?_)
                  clear hK7 K7
                  try simp only [Act.put, List.setIfInBounds_toArray, List.set_cons_zero, List.set_cons_succ]
                  refine wpAnyH_done (by kernel_rfl) ?_ _
                  clear hHeld
                  go_wp2_with fail
                  go_ret
                  rw [HE2.out]
                  have HO6 := HO8.out
                  rw [show (m.bans.take ps ++ (⟨cl, n⟩ : BanV) :: m.bans.drop ps).length = min ps m.bans.length + (m.bans.length - ps + 1) by simp] at HO6
                  exact ⟨rfl, (HG.out.keep HB7.out).bans HK8.out HO6, below_set1 (((Far.of HB.out HBB.out).trans (Far.of HB7.out (HBB.out.mono HB.out.size))).trans HF8.out) HG.out.1 _ _⟩
                exact AllReadyH.nil
              exact AllReadyH.nil
            exact AllReadyH.nil
          refine AllReadyH.cons (o := { dst := some 37, op := Op.buildSlice 25 1 #[(0, Operand.tmp 36)], type := 25, pos := "sheet.go:98", after := #[{ on := 8, ground := Ground.data }], guard := none }) rfl (fun K7 hK7 => ?_) ?_
          · go_simp
            refine hK7.out _ _ (trivial) (fun hHeld => ?_)
            clear hK7 K7
            try simp only [Act.put, List.setIfInBounds_toArray, List.set_cons_zero, List.set_cons_succ]
            refine wpAnyH_ready (rs := [5]) (by kernel_rfl) (by simp) ?_
            refine AllReadyH.cons (o := { dst := some 33, op := Op.load 25 (Operand.tmp 32), type := 25, pos := "sheet.go:98", after := #[{ on := 4, ground := Ground.data }], guard := none }) rfl (fun K7 hK7 => ?_) ?_
            · go_simp
              refine hK7.out _ _ (trivial) (fun hHeld => ?_)
              clear hK7 K7
              try simp only [Act.put, List.setIfInBounds_toArray, List.set_cons_zero, List.set_cons_succ]
              refine wpAnyH_ready (rs := [10]) (by kernel_rfl) (by simp) ?_
              refine AllReadyH.cons (o := { dst := some 38, op := Op.call { callee := Callee.value (Operand.func 223), args := #[Operand.tmp 33, Operand.tmp 34, Operand.tmp 37], argTypes := #[25, 3, 25] }, type := 25, pos := "sheet.go:98", after := #[{ on := 5, ground := Ground.data }, { on := 6, ground := Ground.data }, { on := 9, ground := Ground.data }, { on := 8, ground := Ground.chain }], guard := none }) rfl (fun K7 hK7 => ?_) ?_
              · go_simp
                refine (HIn.out w6 HB6.out).mono ?_
                rintro e w8 ⟨v8, rfl, ho, hk, hfr⟩
                obtain ⟨a8, c8, rfl⟩ := ho.slice
                have HO8 := Lib.hid ho; have HK8 := Lib.hid hk; have HF8 := Lib.hid hfr
                have HX8 : Hid (MBox w8 S 109 m.epoch vh (.slice (some ⟨g, 0, none⟩) m.osds.length cap) vp (.slice ap m.bans.length cp)) := Lib.hid (hk.box (by decide) (HM.out.keep HB7.out))
                have s8 := HX8.out.cells.2.2.2.2
                have t8 := HX8.out.thaw 4
                clear ho hk hfr s1 s2
                try dsimp only
                refine hK7.out _ _ (trivial) (fun hHeld => ?_)
                clear hK7 K7
                try simp only [Act.put, List.setIfInBounds_toArray, List.set_cons_zero, List.set_cons_succ]
                refine wpAnyH_take (i := 11) (oi := { dst := some 39, op := Op.nilCheck (Operand.tmp 28), type := 0, pos := "sheet.go:98", after := #[{ on := 0, ground := Ground.data }, { on := 0, ground := Ground.phase }, { on := 1, ground := Ground.phase }, { on := 2, ground := Ground.phase }, { on := 3, ground := Ground.phase }, { on := 4, ground := Ground.phase }, { on := 5, ground := Ground.phase }, { on := 6, ground := Ground.phase }, { on := 7, ground := Ground.phase }, { on := 8, ground := Ground.phase }, { on := 9, ground := Ground.phase }, { on := 10, ground := Ground.phase }], guard := none }) (v := ?_) rfl (by kernel_rfl) (by kernel_rfl) (by kernel_rfl) (fun _ _ _ h => h) (Or.inl ⟨by rfl, ?_⟩) hHeld ?_
                rotate_left 1
                · intro W hSw
                  (try dsimp only at hSw)
                  go_simp
                  try with_reducible rfl
                try simp only [Act.put, List.setIfInBounds_toArray, List.set_cons_zero, List.set_cons_succ]
                refine wpAnyH_take (i := 12) (oi := { dst := some 40, op := Op.fieldAddr 109 (Operand.tmp 39) 0, type := 0, pos := "sheet.go:98", after := #[{ on := 11, ground := Ground.data }, { on := 0, ground := Ground.phase }, { on := 1, ground := Ground.phase }, { on := 2, ground := Ground.phase }, { on := 3, ground := Ground.phase }, { on := 4, ground := Ground.phase }, { on := 5, ground := Ground.phase }, { on := 6, ground := Ground.phase }, { on := 7, ground := Ground.phase }, { on := 8, ground := Ground.phase }, { on := 9, ground := Ground.phase }, { on := 10, ground := Ground.phase }], guard := none }) (v := ?_) rfl (by kernel_rfl) (by kernel_rfl) (by kernel_rfl) (fun _ _ _ h => h) (Or.inl ⟨by rfl, ?_⟩) hHeld ?_
                rotate_left 1
                · intro W hSw
                  (try dsimp only at hSw)
                  go_simp
                  try with_reducible rfl
                try simp only [Act.put, List.setIfInBounds_toArray, List.set_cons_zero, List.set_cons_succ]
                refine wpAnyH_take (i := 13) (oi := { dst := some 41, op := Op.fieldAddr 27 (Operand.tmp 40) 4, type := 0, pos := "sheet.go:98", after := #[{ on := 12, ground := Ground.data }, { on := 0, ground := Ground.phase }, { on := 1, ground := Ground.phase }, { on := 2, ground := Ground.phase }, { on := 3, ground := Ground.phase }, { on := 4, ground := Ground.phase }, { on := 5, ground := Ground.phase }, { on := 6, ground := Ground.phase }, { on := 7, ground := Ground.phase }, { on := 8, ground := Ground.phase }, { on := 9, ground := Ground.phase }, { on := 10, ground := Ground.phase }], guard := none }) (v := ?_) rfl (by kernel_rfl) (by kernel_rfl) (by kernel_rfl) (fun _ _ _ h => h) (Or.inl ⟨by rfl, ?_⟩) hHeld ?_
                rotate_left 1
                · intro W hSw
                  (try dsimp only at hSw)
                  go_simp
                  try with_reducible rfl
                try simp only [Act.put, List.setIfInBounds_toArray, List.set_cons_zero, List.set_cons_succ]
                refine wpAnyH_ready (rs := [14]) (by kernel_rfl) (by simp) ?_
                refine AllReadyH.cons (o := { dst := none, op := Op.store 25 (Operand.tmp 41) (Operand.tmp 38), type := 0, pos := "sheet.go:98", after := #[{ on := 13, ground := Ground.data }, { on := 10, ground := Ground.data }, { on := 10, ground := Ground.chain }, { on := 0, ground := Ground.phase }, { on := 1, ground := Ground.phase }, { on := 2, ground := Ground.phase }, { on := 3, ground := Ground.phase }, { on := 4, ground := Ground.phase }, { on := 5, ground := Ground.phase }, { on := 6, ground := Ground.phase }, { on := 7, ground := Ground.phase }, { on := 8, ground := Ground.phase }, { on := 9, ground := Ground.phase }, { on := 10, ground := Ground.phase }], guard := none }) rfl (fun K7 hK7 => ?_) ?_
                · go_simp
                  refine hK7.out _ _ (trivial) (fun hHeld => ?_)
                  clear hK7 K7
                  try simp only [Act.put, List.setIfInBounds_toArray, List.set_cons_zero, List.set_cons_succ]
                  refine wpAnyH_done (by kernel_rfl) ?_ _
                  clear hHeld
                  go_wp2_with fail
                  go_ret
                  rw [HE2.out]
                  have HO6 := HO8.out
                  rw [show (m.bans.take ps ++ (⟨cl, n⟩ : BanV) :: m.bans.drop ps).length = min ps m.bans.length + (m.bans.length - ps + 1) by simp] at HO6
                  exact ⟨rfl, (HG.out.keep HB7.out).bans HK8.out HO6, below_set1 (((Far.of HB.out HBB.out).trans (Far.of HB7.out (HBB.out.mono HB.out.size))).trans HF8.out) HG.out.1 _ _⟩
                exact AllReadyH.nil
              exact AllReadyH.nil
            exact AllReadyH.nil
          exact AllReadyH.nil
        exact AllReadyH.nil
      exact AllReadyH.nil
      --R4E
end Go.Proofs.YtoeklnmmnmmjeaaGreat.crush

namespace Go.Proofs.YtoeklnmmnmmjeaaGreat.crush
open Go.RowKit
open Go.Proofs.YtoeklnmmnmmjeaaGreat.kit Go.Proofs.YtoeklnmmnmmjeaaGreat.own
set_option linter.unusedVariables false

set_option maxHeartbeats 16000000 in
set_option maxRecDepth 100000 in
theorem change6_any (c : IncV) (hk : c.kind = 6) (hok : okInc c = true) (B : Nat → Prop) (S g cap : Nat) (m : MapV) (w : World) (h : SheetG w B S g cap m) (hB : In B w) (hl : m.bans.length ≤ 64) (hr : ∀ k (hk : k < m.bans.length), ordB m.bans[k] (banV c) < 0 ↔ k < posB m.bans (banV c)) :
    Calls Tryz.prog 163 #[.pointer (some ⟨S, 0, none⟩), c.val] w (StO B S g cap (banE (banV c) m) w) := by
  have HIn := Lib.hid (fun u => Inc_any c u)
  rw [hok] at HIn
  have HBo := Lib.hid (fun u (hu : Below w.heap.size w u) => ban_any c B S g cap m u (h.keep hu) (hB.mono hu.size) hl hr)
  obtain ⟨k, o, cl, n, a, b, p, d⟩ := c
  simp only at hk
  subst hk
  unfold IncV.val at HIn HBo ⊢
  simp only at HIn HBo ⊢
  have hb := below_new w (.cells #[.int .i64 6, .int .i64 o, .int .i64 cl, .int .i64 n, .int .i64 a, .int .i64 b, .int .i64 p, .int .i64 d] 31)
  have hx := ibx_new w ⟨6, o, cl, n, ⟨a, b, p, d⟩⟩
  have hmf : ∀ (fn : Fn) (first cap : Array Value) (w : World), (Instr.makeFunc fn first cap).run Tryz.prog w = .ok (.func fn first cap) w := fun _ _ _ _ => rfl
  have mixed : Tryz.prog.follows .mixedOrders = true := by kernel_rfl
  obtain ⟨R, hR⟩ : ∃ R, banE (banV ⟨6, o, cl, n, ⟨a, b, p, d⟩⟩) m = R := ⟨_, rfl⟩
  rw [hR] at HBo ⊢
  clear hR
  have HB := Lib.hid hb; have HX := Lib.hid hx; have HBB := Lib.hid hB
  clear hok h hB hb hx hl hr
  go_enter Tryz.func163, Tryz.ntmps163
  have HT := Lib.hid (deed_there (w.alloc (.cells #[.int .i64 6, .int .i64 o, .int .i64 cl, .int .i64 n, .int .i64 a, .int .i64 b, .int .i64 p, .int .i64 d] 31)))
  have HDs := Lib.hid (deed_set (w.alloc (.cells #[.int .i64 6, .int .i64 o, .int .i64 cl, .int .i64 n, .int .i64 a, .int .i64 b, .int .i64 p, .int .i64 d] 31)) S)
  have HBd := Lib.hid (deed_below (w.alloc (.cells #[.int .i64 6, .int .i64 o, .int .i64 cl, .int .i64 n, .int .i64 a, .int .i64 b, .int .i64 p, .int .i64 d] 31)) S)
  rw [World.size_alloc] at HT HDs HBd
  go_upto_region 2 with (refine wpList_store_mid rfl 246 _ _ rfl (w.heap.size + 1) 0 (deedA S) rfl rfl HT.out sizeDeed (deed_one S) ?_)
  have HX2 := Lib.hid (HX.out.keep (by rw [World.size_alloc]; exact HBd.out))
  have HB2 := Lib.hid (HB.out.trans (HBd.out.mono (by omega)))
  generalize World.setCells _ (w.heap.size + 1) 0 (deedA S).toList = W at HDs HX2 HB2 ⊢
  have HXd := Lib.hid (HX2.out.keep (below_drew (Below.refl _ _)))
  have HDd := Lib.hid (HDs.out.keep (below_drew (Below.refl _ _)))
  have HBw := Lib.hid (below_drew HB2.out)
  obtain ⟨c0, c1, c2, c3, c4, c5, c6, c7⟩ := HXd.out.cells
  simp only at c0 c1 c2 c3 c4 c5 c6 c7
  clear HT HBd HX HB HX2 HB2 HDs
  refine wp_region_held_drew (S := fun _ => True) (by kernel_rfl) (trivial) (fun hHeld => ?_)
  refine wpAnyH_ready (rs := [0]) (by kernel_rfl) (by simp) ?_
  refine AllReadyH.cons (o := { dst := some 19, op := Op.load 31 (Operand.tmp 3), type := 31, pos := "sheet.go:30", after := #[], guard := none }) rfl (fun K7 hK7 => ?_) ?_
  · go_simp
    refine hK7.out _ _ (trivial) (fun hHeld => ?_)
    clear hK7 K7
    try simp only [Act.put, List.setIfInBounds_toArray, List.set_cons_zero, List.set_cons_succ]
    refine wpAnyH_ready (rs := [1]) (by kernel_rfl) (by simp) ?_
    refine AllReadyH.cons (o := { dst := some 20, op := Op.call { callee := Callee.value (Operand.func 20), args := #[Operand.tmp 19], argTypes := #[31] }, type := 4, pos := "sheet.go:30", after := #[{ on := 0, ground := Ground.data }], guard := none }) rfl (fun K7 hK7 => ?_) ?_
    · go_simp
      refine (HIn.out _).mono ?_
      rintro e w5 ⟨rfl, hb⟩
      have HB5 := Lib.hid (HBw.out.trans (hb.mono HBw.out.size))
      have HX5 := Lib.hid (HXd.out.keep hb)
      have HD5 := Lib.hid (HDd.out.keep hb)
      clear hb c0 c1 c2 c3 c4 c5 c6 c7
      obtain ⟨c0, c1, c2, c3, c4, c5, c6, c7⟩ := HX5.out.cells
      simp only at c0 c1 c2 c3 c4 c5 c6 c7
      have d0 := HD5.out.at6
      try dsimp only
      refine hK7.out _ _ (trivial) (fun hHeld => ?_)
      clear hK7 K7
      try simp only [Act.put, List.setIfInBounds_toArray, List.set_cons_zero, List.set_cons_succ]
      refine wpAnyH_take (i := 2) (oi := { dst := some 21, op := Op.move (Operand.tmp 20), type := 4, pos := "sheet.go:30", after := #[{ on := 1, ground := Ground.data }, { on := 1, ground := Ground.chain }], guard := none }) (v := ?_) rfl (by kernel_rfl) (by kernel_rfl) (by kernel_rfl) (fun _ _ _ h => h) (Or.inl ⟨by rfl, ?_⟩) hHeld ?_
      rotate_left 1
      · intro W hSw
        (try dsimp only at hSw)
        go_simp
        try with_reducible rfl
      try simp only [Act.put, List.setIfInBounds_toArray, List.set_cons_zero, List.set_cons_succ]
      refine wpAnyH_take (i := 3) (oi := { dst := some 22, op := Op.fieldAddr 31 (Operand.tmp 3) 0, type := 0, pos := "sheet.go:30", after := #[{ on := 2, ground := Ground.guard }], guard := some (2, true) }) (v := ?_) rfl (by kernel_rfl) (by kernel_rfl) (by kernel_rfl) (fun _ _ _ h => h) (Or.inl ⟨by rfl, ?_⟩) hHeld ?_
      rotate_left 1
      · intro W hSw
        (try dsimp only at hSw)
        go_simp
        try with_reducible rfl
      try simp only [Act.put, List.setIfInBounds_toArray, List.set_cons_zero, List.set_cons_succ]
      refine wpAnyH_ready (rs := [4, 7]) (by kernel_rfl) (by simp) ?_
      refine AllReadyH.cons (o := { dst := some 23, op := Op.load 3 (Operand.tmp 22), type := 3, pos := "sheet.go:30", after := #[{ on := 3, ground := Ground.data }, { on := 2, ground := Ground.guard }], guard := some (2, true) }) rfl (fun K7 hK7 => ?_) ?_
      · go_simp
        refine hK7.out _ _ (trivial) (fun hHeld => ?_)
        clear hK7 K7
        try simp only [Act.put, List.setIfInBounds_toArray, List.set_cons_zero, List.set_cons_succ]
        refine wpAnyH_take (i := 5) (oi := { dst := some 24, op := Op.indexAddr 246 (Operand.tmp 5) (Operand.tmp 23), type := 0, pos := "sheet.go:30", after := #[{ on := 4, ground := Ground.data }, { on := 2, ground := Ground.guard }], guard := some (2, true) }) (v := ?_) rfl (by kernel_rfl) (by kernel_rfl) (by kernel_rfl) (fun _ _ _ h => h) (Or.inl ⟨by rfl, ?_⟩) hHeld ?_
        rotate_left 1
        · intro W hSw
          (try dsimp only at hSw)
          go_simp
          try with_reducible rfl
        try simp only [Act.put, List.setIfInBounds_toArray, List.set_cons_zero, List.set_cons_succ]
        refine wpAnyH_ready (rs := [6, 7]) (by kernel_rfl) (by simp) ?_
        refine AllReadyH.cons (o := { dst := some 25, op := Op.load 40 (Operand.tmp 24), type := 40, pos := "sheet.go:30", after := #[{ on := 5, ground := Ground.data }, { on := 2, ground := Ground.guard }], guard := some (2, true) }) rfl (fun K7 hK7 => ?_) ?_
        · go_simp
          refine hK7.out _ _ (trivial) (fun hHeld => ?_)
          clear hK7 K7
          try simp only [Act.put, List.setIfInBounds_toArray, List.set_cons_zero, List.set_cons_succ]
          refine wpAnyH_ready (rs := [7]) (by kernel_rfl) (by simp) ?_
          refine AllReadyH.cons (o := { dst := some 26, op := Op.load 31 (Operand.tmp 3), type := 31, pos := "sheet.go:30", after := #[{ on := 2, ground := Ground.guard }], guard := some (2, true) }) rfl (fun K7 hK7 => ?_) ?_
          · go_simp
            refine hK7.out _ _ (trivial) (fun hHeld => ?_)
            clear hK7 K7
            try simp only [Act.put, List.setIfInBounds_toArray, List.set_cons_zero, List.set_cons_succ]
            refine wpAnyH_ready (rs := [8]) (by kernel_rfl) (by simp) ?_
            refine AllReadyH.cons (o := { dst := some 27, op := Op.call { callee := Callee.value (Operand.tmp 25), args := #[Operand.tmp 26], argTypes := #[31] }, type := 4, pos := "sheet.go:30", after := #[{ on := 6, ground := Ground.data }, { on := 7, ground := Ground.data }, { on := 2, ground := Ground.chain }, { on := 2, ground := Ground.guard }], guard := some (2, true) }) rfl (fun K7 hK7 => ?_) ?_
            · go_simp
              refine (HBo.out _ HB5.out).mono ?_
              rintro e w6 ⟨rfl, hg, hb⟩
              have HG6 := Lib.hid hg
              have HB6 := Lib.hid ((Far.of HB5.out HBB.out).trans hb)
              clear hg hb
              try dsimp only
              refine hK7.out _ _ (trivial) (fun hHeld => ?_)
              clear hK7 K7
              try simp only [Act.put, List.setIfInBounds_toArray, List.set_cons_zero, List.set_cons_succ]
              refine wpAnyH_take (i := 9) (oi := { dst := some 28, op := Op.pick (Operand.tmp 21) (Operand.tmp 27) (Operand.const (Value.bool false)), type := 4, pos := "sheet.go:30", after := #[{ on := 2, ground := Ground.data }, { on := 8, ground := Ground.data }], guard := none }) (v := ?_) rfl (by kernel_rfl) (by kernel_rfl) (by kernel_rfl) (fun _ _ _ h => h) (Or.inl ⟨by rfl, ?_⟩) hHeld ?_
              rotate_left 1
              · intro W hSw
                (try dsimp only at hSw)
                go_simp
                try with_reducible rfl
              try simp only [Act.put, List.setIfInBounds_toArray, List.set_cons_zero, List.set_cons_succ]
              refine wpAnyH_take (i := 10) (oi := { dst := some 4, op := Op.assign (Operand.tmp 28), type := 4, pos := "sheet.go:30", after := #[{ on := 9, ground := Ground.data }, { on := 8, ground := Ground.chain }, { on := 0, ground := Ground.phase }, { on := 1, ground := Ground.phase }, { on := 2, ground := Ground.phase }, { on := 3, ground := Ground.phase }, { on := 4, ground := Ground.phase }, { on := 5, ground := Ground.phase }, { on := 6, ground := Ground.phase }, { on := 7, ground := Ground.phase }, { on := 8, ground := Ground.phase }, { on := 9, ground := Ground.phase }], guard := none }) (v := ?_) rfl (by kernel_rfl) (by kernel_rfl) (by kernel_rfl) (fun _ _ _ h => h) (Or.inl ⟨by rfl, ?_⟩) hHeld ?_
              rotate_left 1
              · intro W hSw
                (try dsimp only at hSw)
                go_simp
                try with_reducible rfl
              try simp only [Act.put, List.setIfInBounds_toArray, List.set_cons_zero, List.set_cons_succ]
              refine wpAnyH_done (by kernel_rfl) ?_ _
              go_wp2
              go_ret
              exact ⟨rfl, HG6.out, HB6.out⟩
            exact AllReadyH.nil
          exact AllReadyH.nil
        refine AllReadyH.cons (o := { dst := some 26, op := Op.load 31 (Operand.tmp 3), type := 31, pos := "sheet.go:30", after := #[{ on := 2, ground := Ground.guard }], guard := some (2, true) }) rfl (fun K7 hK7 => ?_) ?_
        · go_simp
          refine hK7.out _ _ (trivial) (fun hHeld => ?_)
          clear hK7 K7
          try simp only [Act.put, List.setIfInBounds_toArray, List.set_cons_zero, List.set_cons_succ]
          refine wpAnyH_ready (rs := [6]) (by kernel_rfl) (by simp) ?_
          refine AllReadyH.cons (o := { dst := some 25, op := Op.load 40 (Operand.tmp 24), type := 40, pos := "sheet.go:30", after := #[{ on := 5, ground := Ground.data }, { on := 2, ground := Ground.guard }], guard := some (2, true) }) rfl (fun K7 hK7 => ?_) ?_
          · go_simp
            refine hK7.out _ _ (trivial) (fun hHeld => ?_)
            clear hK7 K7
            try simp only [Act.put, List.setIfInBounds_toArray, List.set_cons_zero, List.set_cons_succ]
            refine wpAnyH_ready (rs := [8]) (by kernel_rfl) (by simp) ?_
            refine AllReadyH.cons (o := { dst := some 27, op := Op.call { callee := Callee.value (Operand.tmp 25), args := #[Operand.tmp 26], argTypes := #[31] }, type := 4, pos := "sheet.go:30", after := #[{ on := 6, ground := Ground.data }, { on := 7, ground := Ground.data }, { on := 2, ground := Ground.chain }, { on := 2, ground := Ground.guard }], guard := some (2, true) }) rfl (fun K7 hK7 => ?_) ?_
            · go_simp
              refine (HBo.out _ HB5.out).mono ?_
              rintro e w6 ⟨rfl, hg, hb⟩
              have HG6 := Lib.hid hg
              have HB6 := Lib.hid ((Far.of HB5.out HBB.out).trans hb)
              clear hg hb
              try dsimp only
              refine hK7.out _ _ (trivial) (fun hHeld => ?_)
              clear hK7 K7
              try simp only [Act.put, List.setIfInBounds_toArray, List.set_cons_zero, List.set_cons_succ]
              refine wpAnyH_take (i := 9) (oi := { dst := some 28, op := Op.pick (Operand.tmp 21) (Operand.tmp 27) (Operand.const (Value.bool false)), type := 4, pos := "sheet.go:30", after := #[{ on := 2, ground := Ground.data }, { on := 8, ground := Ground.data }], guard := none }) (v := ?_) rfl (by kernel_rfl) (by kernel_rfl) (by kernel_rfl) (fun _ _ _ h => h) (Or.inl ⟨by rfl, ?_⟩) hHeld ?_
              rotate_left 1
              · intro W hSw
                (try dsimp only at hSw)
                go_simp
                try with_reducible rfl
              try simp only [Act.put, List.setIfInBounds_toArray, List.set_cons_zero, List.set_cons_succ]
              refine wpAnyH_take (i := 10) (oi := { dst := some 4, op := Op.assign (Operand.tmp 28), type := 4, pos := "sheet.go:30", after := #[{ on := 9, ground := Ground.data }, { on := 8, ground := Ground.chain }, { on := 0, ground := Ground.phase }, { on := 1, ground := Ground.phase }, { on := 2, ground := Ground.phase }, { on := 3, ground := Ground.phase }, { on := 4, ground := Ground.phase }, { on := 5, ground := Ground.phase }, { on := 6, ground := Ground.phase }, { on := 7, ground := Ground.phase }, { on := 8, ground := Ground.phase }, { on := 9, ground := Ground.phase }], guard := none }) (v := ?_) rfl (by kernel_rfl) (by kernel_rfl) (by kernel_rfl) (fun _ _ _ h => h) (Or.inl ⟨by rfl, ?_⟩) hHeld ?_
              rotate_left 1
              · intro W hSw
                (try dsimp only at hSw)
                go_simp
                try with_reducible rfl
              try simp only [Act.put, List.setIfInBounds_toArray, List.set_cons_zero, List.set_cons_succ]
              refine wpAnyH_done (by kernel_rfl) ?_ _
              go_wp2
              go_ret
              exact ⟨rfl, HG6.out, HB6.out⟩
            exact AllReadyH.nil
          exact AllReadyH.nil
        exact AllReadyH.nil
      refine AllReadyH.cons (o := { dst := some 26, op := Op.load 31 (Operand.tmp 3), type := 31, pos := "sheet.go:30", after := #[{ on := 2, ground := Ground.guard }], guard := some (2, true) }) rfl (fun K7 hK7 => ?_) ?_
      · go_simp
        refine hK7.out _ _ (trivial) (fun hHeld => ?_)
        clear hK7 K7
        try simp only [Act.put, List.setIfInBounds_toArray, List.set_cons_zero, List.set_cons_succ]
        refine wpAnyH_ready (rs := [4]) (by kernel_rfl) (by simp) ?_
        refine AllReadyH.cons (o := { dst := some 23, op := Op.load 3 (Operand.tmp 22), type := 3, pos := "sheet.go:30", after := #[{ on := 3, ground := Ground.data }, { on := 2, ground := Ground.guard }], guard := some (2, true) }) rfl (fun K7 hK7 => ?_) ?_
        · go_simp
          refine hK7.out _ _ (trivial) (fun hHeld => ?_)
          clear hK7 K7
          try simp only [Act.put, List.setIfInBounds_toArray, List.set_cons_zero, List.set_cons_succ]
          refine wpAnyH_take (i := 5) (oi := { dst := some 24, op := Op.indexAddr 246 (Operand.tmp 5) (Operand.tmp 23), type := 0, pos := "sheet.go:30", after := #[{ on := 4, ground := Ground.data }, { on := 2, ground := Ground.guard }], guard := some (2, true) }) (v := ?_) rfl (by kernel_rfl) (by kernel_rfl) (by kernel_rfl) (fun _ _ _ h => h) (Or.inl ⟨by rfl, ?_⟩) hHeld ?_
          rotate_left 1
          · intro W hSw
            (try dsimp only at hSw)
            go_simp
            try with_reducible rfl
          try simp only [Act.put, List.setIfInBounds_toArray, List.set_cons_zero, List.set_cons_succ]
          refine wpAnyH_ready (rs := [6]) (by kernel_rfl) (by simp) ?_
          refine AllReadyH.cons (o := { dst := some 25, op := Op.load 40 (Operand.tmp 24), type := 40, pos := "sheet.go:30", after := #[{ on := 5, ground := Ground.data }, { on := 2, ground := Ground.guard }], guard := some (2, true) }) rfl (fun K7 hK7 => ?_) ?_
          · go_simp
            refine hK7.out _ _ (trivial) (fun hHeld => ?_)
            clear hK7 K7
            try simp only [Act.put, List.setIfInBounds_toArray, List.set_cons_zero, List.set_cons_succ]
            refine wpAnyH_ready (rs := [8]) (by kernel_rfl) (by simp) ?_
            refine AllReadyH.cons (o := { dst := some 27, op := Op.call { callee := Callee.value (Operand.tmp 25), args := #[Operand.tmp 26], argTypes := #[31] }, type := 4, pos := "sheet.go:30", after := #[{ on := 6, ground := Ground.data }, { on := 7, ground := Ground.data }, { on := 2, ground := Ground.chain }, { on := 2, ground := Ground.guard }], guard := some (2, true) }) rfl (fun K7 hK7 => ?_) ?_
            · go_simp
              refine (HBo.out _ HB5.out).mono ?_
              rintro e w6 ⟨rfl, hg, hb⟩
              have HG6 := Lib.hid hg
              have HB6 := Lib.hid ((Far.of HB5.out HBB.out).trans hb)
              clear hg hb
              try dsimp only
              refine hK7.out _ _ (trivial) (fun hHeld => ?_)
              clear hK7 K7
              try simp only [Act.put, List.setIfInBounds_toArray, List.set_cons_zero, List.set_cons_succ]
              refine wpAnyH_take (i := 9) (oi := { dst := some 28, op := Op.pick (Operand.tmp 21) (Operand.tmp 27) (Operand.const (Value.bool false)), type := 4, pos := "sheet.go:30", after := #[{ on := 2, ground := Ground.data }, { on := 8, ground := Ground.data }], guard := none }) (v := ?_) rfl (by kernel_rfl) (by kernel_rfl) (by kernel_rfl) (fun _ _ _ h => h) (Or.inl ⟨by rfl, ?_⟩) hHeld ?_
              rotate_left 1
              · intro W hSw
                (try dsimp only at hSw)
                go_simp
                try with_reducible rfl
              try simp only [Act.put, List.setIfInBounds_toArray, List.set_cons_zero, List.set_cons_succ]
              refine wpAnyH_take (i := 10) (oi := { dst := some 4, op := Op.assign (Operand.tmp 28), type := 4, pos := "sheet.go:30", after := #[{ on := 9, ground := Ground.data }, { on := 8, ground := Ground.chain }, { on := 0, ground := Ground.phase }, { on := 1, ground := Ground.phase }, { on := 2, ground := Ground.phase }, { on := 3, ground := Ground.phase }, { on := 4, ground := Ground.phase }, { on := 5, ground := Ground.phase }, { on := 6, ground := Ground.phase }, { on := 7, ground := Ground.phase }, { on := 8, ground := Ground.phase }, { on := 9, ground := Ground.phase }], guard := none }) (v := ?_) rfl (by kernel_rfl) (by kernel_rfl) (by kernel_rfl) (fun _ _ _ h => h) (Or.inl ⟨by rfl, ?_⟩) hHeld ?_
              rotate_left 1
              · intro W hSw
                (try dsimp only at hSw)
                go_simp
                try with_reducible rfl
              try simp only [Act.put, List.setIfInBounds_toArray, List.set_cons_zero, List.set_cons_succ]
              refine wpAnyH_done (by kernel_rfl) ?_ _
              go_wp2
              go_ret
              exact ⟨rfl, HG6.out, HB6.out⟩
            exact AllReadyH.nil
          exact AllReadyH.nil
        exact AllReadyH.nil
      exact AllReadyH.nil
    exact AllReadyH.nil
  exact AllReadyH.nil
end Go.Proofs.YtoeklnmmnmmjeaaGreat.crush
