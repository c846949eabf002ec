/- A pool that is added. -/
import Derived.Test.YtcofmfjhgbihkaaRows
import Derived.Test.YtcofmfjhgbihkaaMapsChg
import Derived.Test.YtcofmfjhgbihkaaRuleApp
namespace Go.Proofs.Ytcofmfjhgbihkaa.crush
open Go.RowKit
open Go.Proofs.Ytcofmfjhgbihkaa.kit Go.Proofs.Ytcofmfjhgbihkaa.own
set_option linter.unusedVariables false
set_option linter.unusedSimpArgs false

def poolE (p : PoolV) (m : MapV) : MapV × Bool := if 2 ≤ m.pools.length then (m, false) else (⟨m.epoch, m.hosts, m.osds, m.pools ++ [p], m.bans⟩, true)

theorem below_set1 {B : Nat → Prop} {w w' : World} (h : Far B w w') {b : Nat} (hb : ¬ B b) (o : Nat) (v : Value) : Far B w (w'.setCell ⟨b, o, none⟩ v) := h.setCell (p := ⟨b, o, none⟩) hb v
theorem SheetG.pools {U w' : World} {B : Nat → Prop} {S g cap : Nat} {m : MapV} (h : SheetG U B S g cap m) {v' : Value} {ps : List PoolV} (hk : Kept 0 85 U w') (ho : OwnP pc 4 85 w' B v' ps) :
    SheetG (w'.setCell ⟨S, 3, none⟩ v') B S g cap ⟨m.epoch, m.hosts, m.osds, ps, m.bans⟩ := by
  obtain ⟨h0, hg, vh, vp, vb, h1, h2, h3, h4, h5⟩ := h
  have hx := hk.box (by decide) h1
  obtain ⟨cur, hc, -⟩ := h3.ex
  have hne : g ≠ S := fun e => by subst e; unfold MBox at h1; rw [h1] at hc; cases hc
  have hko : ∀ {α : Type} {enc : α → List Value} {k e : Nat} {v : Value} {xs : List α}, OwnP enc k e U B v xs → e ≠ 85 → OwnP enc k e w' B v xs := by
    intro α enc k e v xs h hne
    obtain ⟨⟨q1, q2⟩, q3⟩ := id h
    refine ⟨⟨q1, ?_⟩, q3⟩
    rcases q2 with ⟨rfl, h0⟩ | ⟨g, cap, cur, rfl, hB, hg, hr⟩
    · exact .inl ⟨rfl, h0⟩
    · refine .inr ⟨g, cap, cur, rfl, hB, (hk.other g (Array.getElem?_eq_some_iff.1 hg).1 (fun c f e2 => ?_)).trans hg, hr⟩
      rw [hg] at e2
      injection e2 with e3
      injection e3 with _ e4
      exact hne e4
  have h3' : OwnAt oc 4 132 w' g cap m.osds := by
    obtain ⟨cur, q1, q2, q3⟩ := h3.ex
    exact ⟨⟨cur, hk.box (by decide) q1, q2, q3⟩, h3.le, h3.max⟩
  exact ⟨h0, hg, vh, v', vb, heap_setCell_same w' S 3 _ _ v' hx, (hko h2 (by decide)).far hx (by decide) _ _, h3'.block (heap_setCell_other _ _ _ _ hne), ho.far hx (by decide) _ _, (hko h5 (by decide)).far hx (by decide) _ _⟩

set_option maxHeartbeats 16000000 in
set_option maxRecDepth 100000 in
theorem pool_any (c : IncV) (B : Nat → Prop) (S g cap : Nat) (m : MapV) (w : World) (h : SheetG w B S g cap m) (hB : In B w) :
    Calls Try.prog 131 #[.pointer (some ⟨S, 0, none⟩), c.val] w (StO B S g cap (poolE c.pool m) w) := by
  have hb := below_new w (.cells #[.int .i64 c.kind, .int .i64 c.osd, .int .i64 c.client, .int .i64 c.num, .int .i64 c.pool.size, .int .i64 c.pool.min, .int .i64 c.pool.pgs, .int .i64 c.pool.dom] 87)
  have hx := ibx_new w c
  have hg := h.keep hb
  obtain ⟨k, o, cl, n, a, b, p, d⟩ := c
  unfold IncV.val
  simp only at hb hx hg ⊢
  have HBB := Lib.hid hB
  obtain ⟨W, hW⟩ : ∃ W, w.alloc (.cells #[.int .i64 k, .int .i64 o, .int .i64 cl, .int .i64 n, .int .i64 a, .int .i64 b, .int .i64 p, .int .i64 d] 87) = W := ⟨_, rfl⟩
  rw [hW] at hb hg
  have hx2 : IBx W w.heap.size ⟨k, o, cl, n, ⟨a, b, p, d⟩⟩ := by rw [← hW]; exact hx
  have HB := Lib.hid hb; have HX := Lib.hid hx2; have HG := Lib.hid hg
  obtain ⟨-, -, vh, vp, vb, hm, -, -, hp, -⟩ := hg
  obtain ⟨ap, cp, rfl⟩ := hp.slice
  have HM := Lib.hid hm; have HP := Lib.hid hp
  obtain ⟨L, hL⟩ : ∃ L, m.pools.length = L := ⟨_, rfl⟩
  have HL := Lib.hid hL
  obtain ⟨l0, l1, l2, l3, l4⟩ := hm.cells
  rw [hL] at l3
  clear hx hx2 hb hB hm hp h l0 l1 l2 l4 hL
  have mixed : Try.prog.follows .mixedOrders = true := by kernel_rfl
  go_enter Try.func131, Try.ntmps131
  by_cases h2 : 2 ≤ L
  · have hE : Hid (poolE ⟨a, b, p, d⟩ m = (m, false)) := Lib.hid (by unfold poolE; rw [if_pos (by rw [HL.out]; exact h2)])
    go_wp2_with fail
    go_ret
    rw [hE.out]
    exact ⟨rfl, HG.out, Far.of HB.out HBB.out⟩
  · go_upto_region 3 with fail
    clear hW
    have HD := Lib.hid (below_drew (Below.refl W.heap.size W))
    have l3d := (((HM.out.keep HD.out).cells).2.2.2.1)
    rw [HL.out] at l3d
    obtain ⟨c0, c1, c2, c3, c4, c5, c6, c7⟩ := (HX.out.keep HD.out).cells
    simp only at c4 c5 c6 c7
    clear c0 c1 c2 c3 l3
    have HP2 := Lib.hid (show OwnP pc 4 85 (W.alloc (.cells #[.int .i64 a, .int .i64 b, .int .i64 p, .int .i64 d] 85)).drew B (.slice ap L cp) m.pools from by rw [← HL.out]; exact (HP.out.below HD.out).below (below_new _ _))
    have HS2 := Lib.hid (show Sl pc 4 (W.alloc (.cells #[.int .i64 a, .int .i64 b, .int .i64 p, .int .i64 d] 85)).drew (.slice (some ⟨W.heap.size, 0, none⟩) 1 1) [⟨a, b, p, d⟩] from sl_new pc_len W.drew ⟨a, b, p, d⟩ 85 W.heap.size rfl)
    have HG2 := Lib.hid (show SheetG (W.alloc (.cells #[.int .i64 a, .int .i64 b, .int .i64 p, .int .i64 d] 85)).drew B S g cap m from (HG.out.keep HD.out).keep (below_new W.drew (.cells #[.int .i64 a, .int .i64 b, .int .i64 p, .int .i64 d] 85)))
    have HM2 := Lib.hid (show MBox (W.alloc (.cells #[.int .i64 a, .int .i64 b, .int .i64 p, .int .i64 d] 85)).drew S 185 m.epoch vh (.slice (some ⟨g, 0, none⟩) m.osds.length cap) (.slice ap m.pools.length cp) vb from (HM.out.keep HD.out).keep (below_new W.drew (.cells #[.int .i64 a, .int .i64 b, .int .i64 p, .int .i64 d] 85)))
    have l3a := HM2.out.cells.2.2.2.1
    rw [HL.out] at l3a
    have HBU : Hid (In B (W.alloc (.cells #[.int .i64 a, .int .i64 b, .int .i64 p, .int .i64 d] 85)).drew) := Lib.hid (HBB.out.mono (by have h2 := HB.out.size; have h3 := HD.out.size; simp; omega))
    --R3
    refine wp_region_held_drew (S := fun _ => True) (by kernel_rfl) (trivial) (fun hHeld => ?_)
    refine wpAnyH_take (i := 0) (oi := { dst := some 12, op := Op.move (Operand.tmp 0), type := 164, pos := "sheet.go:89", after := #[], guard := none }) (v := ?_) rfl (by kernel_rfl) (by kernel_rfl) (by kernel_rfl) (fun _ _ _ h => h) (Or.inl ⟨by rfl, ?_⟩) hHeld ?_
    rotate_left 1
    · intro W hSw
      (try dsimp only at hSw)
      go_simp
      try with_reducible rfl
    try simp only [Act.put, List.setIfInBounds_toArray, List.set_cons_zero, List.set_cons_succ]
    refine wpAnyH_take (i := 1) (oi := { dst := some 13, op := Op.move (Operand.tmp 0), type := 164, pos := "sheet.go:89", after := #[], guard := none }) (v := ?_) rfl (by kernel_rfl) (by kernel_rfl) (by kernel_rfl) (fun _ _ _ h => h) (Or.inl ⟨by rfl, ?_⟩) hHeld ?_
    rotate_left 1
    · intro W hSw
      (try dsimp only at hSw)
      go_simp
      try with_reducible rfl
    try simp only [Act.put, List.setIfInBounds_toArray, List.set_cons_zero, List.set_cons_succ]
    refine wpAnyH_take (i := 2) (oi := { dst := some 14, op := Op.nilCheck (Operand.tmp 13), type := 0, pos := "sheet.go:89", after := #[{ on := 1, ground := Ground.data }], guard := none }) (v := ?_) rfl (by kernel_rfl) (by kernel_rfl) (by kernel_rfl) (fun _ _ _ h => h) (Or.inl ⟨by rfl, ?_⟩) hHeld ?_
    rotate_left 1
    · intro W hSw
      (try dsimp only at hSw)
      go_simp
      try with_reducible rfl
    try simp only [Act.put, List.setIfInBounds_toArray, List.set_cons_zero, List.set_cons_succ]
    refine wpAnyH_take (i := 3) (oi := { dst := some 15, op := Op.fieldAddr 185 (Operand.tmp 14) 0, type := 0, pos := "sheet.go:89", after := #[{ on := 2, ground := Ground.data }], guard := none }) (v := ?_) rfl (by kernel_rfl) (by kernel_rfl) (by kernel_rfl) (fun _ _ _ h => h) (Or.inl ⟨by rfl, ?_⟩) hHeld ?_
    rotate_left 1
    · intro W hSw
      (try dsimp only at hSw)
      go_simp
      try with_reducible rfl
    try simp only [Act.put, List.setIfInBounds_toArray, List.set_cons_zero, List.set_cons_succ]
    refine wpAnyH_take (i := 4) (oi := { dst := some 16, op := Op.fieldAddr 83 (Operand.tmp 15) 3, type := 0, pos := "sheet.go:89", after := #[{ on := 3, ground := Ground.data }], guard := none }) (v := ?_) rfl (by kernel_rfl) (by kernel_rfl) (by kernel_rfl) (fun _ _ _ h => h) (Or.inl ⟨by rfl, ?_⟩) hHeld ?_
    rotate_left 1
    · intro W hSw
      (try dsimp only at hSw)
      go_simp
      try with_reducible rfl
    try simp only [Act.put, List.setIfInBounds_toArray, List.set_cons_zero, List.set_cons_succ]
    refine wpAnyH_take (i := 6) (oi := { dst := some 18, op := Op.fieldAddr 87 (Operand.tmp 3) 4, type := 0, pos := "sheet.go:89", after := #[], guard := none }) (v := ?_) rfl (by kernel_rfl) (by kernel_rfl) (by kernel_rfl) (fun _ _ _ h => h) (Or.inl ⟨by rfl, ?_⟩) hHeld ?_
    rotate_left 1
    · intro W hSw
      (try dsimp only at hSw)
      go_simp
      try with_reducible rfl
    try simp only [Act.put, List.setIfInBounds_toArray, List.set_cons_zero, List.set_cons_succ]
    refine wpAnyH_ready (rs := [5, 7]) (by kernel_rfl) (by simp) ?_
    refine AllReadyH.cons (o := { dst := some 17, op := Op.load 80 (Operand.tmp 16), type := 80, pos := "sheet.go:89", after := #[{ on := 4, ground := Ground.data }], guard := none }) rfl (fun K7 hK7 => ?_) ?_
    · go_simp
      refine hK7.out _ _ (trivial) (fun hHeld => ?_)
      clear hK7 K7
      try simp only [Act.put, List.setIfInBounds_toArray, List.set_cons_zero, List.set_cons_succ]
      refine wpAnyH_ready (rs := [7]) (by kernel_rfl) (by simp) ?_
      refine AllReadyH.cons (o := { dst := some 19, op := Op.load 85 (Operand.tmp 18), type := 85, pos := "sheet.go:89", after := #[{ on := 6, ground := Ground.data }], guard := none }) rfl (fun K7 hK7 => ?_) ?_
      · go_simp
        refine hK7.out _ _ (trivial) (fun hHeld => ?_)
        clear hK7 K7
        try simp only [Act.put, List.setIfInBounds_toArray, List.set_cons_zero, List.set_cons_succ]
        refine wpAnyH_ready (rs := [8]) (by kernel_rfl) (by simp) ?_
        refine AllReadyH.cons (o := { dst := some 20, op := Op.buildSlice 80 1 #[(0, Operand.tmp 19)], type := 80, pos := "sheet.go:89", after := #[{ on := 7, ground := Ground.data }], guard := none }) rfl (fun K7 hK7 => ?_) ?_
        · go_simp
          refine hK7.out _ _ (trivial) (fun hHeld => ?_)
          clear hK7 K7
          try simp only [Act.put, List.setIfInBounds_toArray, List.set_cons_zero, List.set_cons_succ]
          refine wpAnyH_ready (rs := [9]) (by kernel_rfl) (by simp) ?_
          refine AllReadyH.cons (o := { dst := some 21, op := Op.call { callee := Callee.builtin Builtin.append, args := #[Operand.tmp 17, Operand.tmp 20], argTypes := #[80, 80] }, type := 80, pos := "sheet.go:89", after := #[{ on := 5, ground := Ground.data }, { on := 8, ground := Ground.data }], guard := none }) rfl (fun K7 hK7 => ?_) ?_
          · refine step_app1P pc_len pc_one (by decide) (.tmp 17) (.tmp 20) 80 rfl B 85 _ (by rfl) 32 Try.underlying80 infoPool (.slice ap L cp) m.pools rfl HP2.out _ ⟨a, b, p, d⟩ rfl HS2.out (by rw [HL.out]; unfold maxLen; omega) (by rw [HL.out]; omega) HBU.out ?_
            intro v5 w5 ho hk hgr
            obtain ⟨a5, cc5, rfl⟩ := ho.slice
            have HO5 := Lib.hid ho; have HK5 := Lib.hid hk; have HF5 := Lib.hid hgr
            have HX5 : Hid (MBox w5 S 185 m.epoch vh (.slice (some ⟨g, 0, none⟩) m.osds.length cap) (.slice ap m.pools.length cp) vb) := Lib.hid (hk.box (by decide) HM2.out)
            have s5 := HX5.out.cells.2.2.2.1
            have t5 := HX5.out.thaw 3
            clear ho hk hgr
            try dsimp only
            refine hK7.out _ _ (trivial) (fun hHeld => ?_)
            clear hK7 K7
            try simp only [Act.put, List.setIfInBounds_toArray, List.set_cons_zero, List.set_cons_succ]
            refine wpAnyH_take (i := 10) (oi := { dst := some 22, op := Op.nilCheck (Operand.tmp 12), type := 0, pos := "sheet.go:89", after := #[{ on := 0, ground := Ground.data }, { on := 0, ground := Ground.phase }, { on := 1, ground := Ground.phase }, { on := 2, ground := Ground.phase }, { on := 3, ground := Ground.phase }, { on := 4, ground := Ground.phase }, { on := 5, ground := Ground.phase }, { on := 6, ground := Ground.phase }, { on := 7, ground := Ground.phase }, { on := 8, ground := Ground.phase }, { on := 9, ground := Ground.phase }], guard := none }) (v := ?_) rfl (by kernel_rfl) (by kernel_rfl) (by kernel_rfl) (fun _ _ _ h => h) (Or.inl ⟨by rfl, ?_⟩) hHeld ?_
            rotate_left 1
            · intro W hSw
              (try dsimp only at hSw)
              go_simp
              try with_reducible rfl
            try simp only [Act.put, List.setIfInBounds_toArray, List.set_cons_zero, List.set_cons_succ]
            refine wpAnyH_take (i := 11) (oi := { dst := some 23, op := Op.fieldAddr 185 (Operand.tmp 22) 0, type := 0, pos := "sheet.go:89", after := #[{ on := 10, ground := Ground.data }, { on := 0, ground := Ground.phase }, { on := 1, ground := Ground.phase }, { on := 2, ground := Ground.phase }, { on := 3, ground := Ground.phase }, { on := 4, ground := Ground.phase }, { on := 5, ground := Ground.phase }, { on := 6, ground := Ground.phase }, { on := 7, ground := Ground.phase }, { on := 8, ground := Ground.phase }, { on := 9, ground := Ground.phase }], guard := none }) (v := ?_) rfl (by kernel_rfl) (by kernel_rfl) (by kernel_rfl) (fun _ _ _ h => h) (Or.inl ⟨by rfl, ?_⟩) hHeld ?_
            rotate_left 1
            · intro W hSw
              (try dsimp only at hSw)
              go_simp
              try with_reducible rfl
            try simp only [Act.put, List.setIfInBounds_toArray, List.set_cons_zero, List.set_cons_succ]
            refine wpAnyH_take (i := 12) (oi := { dst := some 24, op := Op.fieldAddr 83 (Operand.tmp 23) 3, type := 0, pos := "sheet.go:89", after := #[{ on := 11, ground := Ground.data }, { on := 0, ground := Ground.phase }, { on := 1, ground := Ground.phase }, { on := 2, ground := Ground.phase }, { on := 3, ground := Ground.phase }, { on := 4, ground := Ground.phase }, { on := 5, ground := Ground.phase }, { on := 6, ground := Ground.phase }, { on := 7, ground := Ground.phase }, { on := 8, ground := Ground.phase }, { on := 9, ground := Ground.phase }], guard := none }) (v := ?_) rfl (by kernel_rfl) (by kernel_rfl) (by kernel_rfl) (fun _ _ _ h => h) (Or.inl ⟨by rfl, ?_⟩) hHeld ?_
            rotate_left 1
            · intro W hSw
              (try dsimp only at hSw)
              go_simp
              try with_reducible rfl
            try simp only [Act.put, List.setIfInBounds_toArray, List.set_cons_zero, List.set_cons_succ]
            refine wpAnyH_ready (rs := [13]) (by kernel_rfl) (by simp) ?_
            refine AllReadyH.cons (o := { dst := none, op := Op.store 80 (Operand.tmp 24) (Operand.tmp 21), type := 0, pos := "sheet.go:89", after := #[{ on := 12, ground := Ground.data }, { on := 9, ground := Ground.data }, { on := 9, ground := Ground.chain }, { on := 0, ground := Ground.phase }, { on := 1, ground := Ground.phase }, { on := 2, ground := Ground.phase }, { on := 3, ground := Ground.phase }, { on := 4, ground := Ground.phase }, { on := 5, ground := Ground.phase }, { on := 6, ground := Ground.phase }, { on := 7, ground := Ground.phase }, { on := 8, ground := Ground.phase }, { on := 9, ground := Ground.phase }], guard := none }) rfl (fun K7 hK7 => ?_) ?_
            · go_simp
              refine hK7.out _ _ (trivial) (fun hHeld => ?_)
              clear hK7 K7
              try simp only [Act.put, List.setIfInBounds_toArray, List.set_cons_zero, List.set_cons_succ]
              refine wpAnyH_done (by kernel_rfl) ?_ _
              clear hHeld
              go_wp2_with fail
              go_ret
              have hE : poolE ⟨a, b, p, d⟩ m = (⟨m.epoch, m.hosts, m.osds, m.pools ++ [⟨a, b, p, d⟩], m.bans⟩, true) := by unfold poolE; rw [if_neg (by rw [HL.out]; exact h2)]
              rw [hE]
              have HO6 := HO5.out
              rw [List.length_append] at HO6
              exact ⟨rfl, HG2.out.pools HK5.out HO6, below_set1 (((Far.of HB.out HBB.out).trans (Far.of (show Below W.heap.size W (W.alloc (.cells #[.int .i64 a, .int .i64 b, .int .i64 p, .int .i64 d] 85)).drew from below_drew (below_new W _)) (HBB.out.mono HB.out.size))).trans HF5.out) HG2.out.1 _ _⟩
            exact AllReadyH.nil
          exact AllReadyH.nil
        exact AllReadyH.nil
      exact AllReadyH.nil
    refine AllReadyH.cons (o := { dst := some 19, op := Op.load 85 (Operand.tmp 18), type := 85, pos := "sheet.go:89", after := #[{ on := 6, ground := Ground.data }], guard := none }) rfl (fun K7 hK7 => ?_) ?_
    · go_simp
      refine hK7.out _ _ (trivial) (fun hHeld => ?_)
      clear hK7 K7
      try simp only [Act.put, List.setIfInBounds_toArray, List.set_cons_zero, List.set_cons_succ]
      refine wpAnyH_ready (rs := [5, 8]) (by kernel_rfl) (by simp) ?_
      refine AllReadyH.cons (o := { dst := some 17, op := Op.load 80 (Operand.tmp 16), type := 80, pos := "sheet.go:89", after := #[{ on := 4, ground := Ground.data }], guard := none }) rfl (fun K7 hK7 => ?_) ?_
      · go_simp
        refine hK7.out _ _ (trivial) (fun hHeld => ?_)
        clear hK7 K7
        try simp only [Act.put, List.setIfInBounds_toArray, List.set_cons_zero, List.set_cons_succ]
        refine wpAnyH_ready (rs := [8]) (by kernel_rfl) (by simp) ?_
        refine AllReadyH.cons (o := { dst := some 20, op := Op.buildSlice 80 1 #[(0, Operand.tmp 19)], type := 80, pos := "sheet.go:89", after := #[{ on := 7, ground := Ground.data }], guard := none }) rfl (fun K7 hK7 => ?_) ?_
        · go_simp
          refine hK7.out _ _ (trivial) (fun hHeld => ?_)
          clear hK7 K7
          try simp only [Act.put, List.setIfInBounds_toArray, List.set_cons_zero, List.set_cons_succ]
          refine wpAnyH_ready (rs := [9]) (by kernel_rfl) (by simp) ?_
          refine AllReadyH.cons (o := { dst := some 21, op := Op.call { callee := Callee.builtin Builtin.append, args := #[Operand.tmp 17, Operand.tmp 20], argTypes := #[80, 80] }, type := 80, pos := "sheet.go:89", after := #[{ on := 5, ground := Ground.data }, { on := 8, ground := Ground.data }], guard := none }) rfl (fun K7 hK7 => ?_) ?_
          · refine step_app1P pc_len pc_one (by decide) (.tmp 17) (.tmp 20) 80 rfl B 85 _ (by rfl) 32 Try.underlying80 infoPool (.slice ap L cp) m.pools rfl HP2.out _ ⟨a, b, p, d⟩ rfl HS2.out (by rw [HL.out]; unfold maxLen; omega) (by rw [HL.out]; omega) HBU.out ?_
            intro v5 w5 ho hk hgr
            obtain ⟨a5, cc5, rfl⟩ := ho.slice
            have HO5 := Lib.hid ho; have HK5 := Lib.hid hk; have HF5 := Lib.hid hgr
            have HX5 : Hid (MBox w5 S 185 m.epoch vh (.slice (some ⟨g, 0, none⟩) m.osds.length cap) (.slice ap m.pools.length cp) vb) := Lib.hid (hk.box (by decide) HM2.out)
            have s5 := HX5.out.cells.2.2.2.1
            have t5 := HX5.out.thaw 3
            clear ho hk hgr
            try dsimp only
            refine hK7.out _ _ (trivial) (fun hHeld => ?_)
            clear hK7 K7
            try simp only [Act.put, List.setIfInBounds_toArray, List.set_cons_zero, List.set_cons_succ]
            refine wpAnyH_take (i := 10) (oi := { dst := some 22, op := Op.nilCheck (Operand.tmp 12), type := 0, pos := "sheet.go:89", after := #[{ on := 0, ground := Ground.data }, { on := 0, ground := Ground.phase }, { on := 1, ground := Ground.phase }, { on := 2, ground := Ground.phase }, { on := 3, ground := Ground.phase }, { on := 4, ground := Ground.phase }, { on := 5, ground := Ground.phase }, { on := 6, ground := Ground.phase }, { on := 7, ground := Ground.phase }, { on := 8, ground := Ground.phase }, { on := 9, ground := Ground.phase }], guard := none }) (v := ?_) rfl (by kernel_rfl) (by kernel_rfl) (by kernel_rfl) (fun _ _ _ h => h) (Or.inl ⟨by rfl, ?_⟩) hHeld ?_
            rotate_left 1
            · intro W hSw
              (try dsimp only at hSw)
              go_simp
              try with_reducible rfl
            try simp only [Act.put, List.setIfInBounds_toArray, List.set_cons_zero, List.set_cons_succ]
            refine wpAnyH_take (i := 11) (oi := { dst := some 23, op := Op.fieldAddr 185 (Operand.tmp 22) 0, type := 0, pos := "sheet.go:89", after := #[{ on := 10, ground := Ground.data }, { on := 0, ground := Ground.phase }, { on := 1, ground := Ground.phase }, { on := 2, ground := Ground.phase }, { on := 3, ground := Ground.phase }, { on := 4, ground := Ground.phase }, { on := 5, ground := Ground.phase }, { on := 6, ground := Ground.phase }, { on := 7, ground := Ground.phase }, { on := 8, ground := Ground.phase }, { on := 9, ground := Ground.phase }], guard := none }) (v := ?_) rfl (by kernel_rfl) (by kernel_rfl) (by kernel_rfl) (fun _ _ _ h => h) (Or.inl ⟨by rfl, ?_⟩) hHeld ?_
            rotate_left 1
            · intro W hSw
              (try dsimp only at hSw)
              go_simp
              try with_reducible rfl
            try simp only [Act.put, List.setIfInBounds_toArray, List.set_cons_zero, List.set_cons_succ]
            refine wpAnyH_take (i := 12) (oi := { dst := some 24, op := Op.fieldAddr 83 (Operand.tmp 23) 3, type := 0, pos := "sheet.go:89", after := #[{ on := 11, ground := Ground.data }, { on := 0, ground := Ground.phase }, { on := 1, ground := Ground.phase }, { on := 2, ground := Ground.phase }, { on := 3, ground := Ground.phase }, { on := 4, ground := Ground.phase }, { on := 5, ground := Ground.phase }, { on := 6, ground := Ground.phase }, { on := 7, ground := Ground.phase }, { on := 8, ground := Ground.phase }, { on := 9, ground := Ground.phase }], guard := none }) (v := ?_) rfl (by kernel_rfl) (by kernel_rfl) (by kernel_rfl) (fun _ _ _ h => h) (Or.inl ⟨by rfl, ?_⟩) hHeld ?_
            rotate_left 1
            · intro W hSw
              (try dsimp only at hSw)
              go_simp
              try with_reducible rfl
            try simp only [Act.put, List.setIfInBounds_toArray, List.set_cons_zero, List.set_cons_succ]
            refine wpAnyH_ready (rs := [13]) (by kernel_rfl) (by simp) ?_
            refine AllReadyH.cons (o := { dst := none, op := Op.store 80 (Operand.tmp 24) (Operand.tmp 21), type := 0, pos := "sheet.go:89", after := #[{ on := 12, ground := Ground.data }, { on := 9, ground := Ground.data }, { on := 9, ground := Ground.chain }, { on := 0, ground := Ground.phase }, { on := 1, ground := Ground.phase }, { on := 2, ground := Ground.phase }, { on := 3, ground := Ground.phase }, { on := 4, ground := Ground.phase }, { on := 5, ground := Ground.phase }, { on := 6, ground := Ground.phase }, { on := 7, ground := Ground.phase }, { on := 8, ground := Ground.phase }, { on := 9, ground := Ground.phase }], guard := none }) rfl (fun K7 hK7 => ?_) ?_
            · go_simp
              refine hK7.out _ _ (trivial) (fun hHeld => ?_)
              clear hK7 K7
              try simp only [Act.put, List.setIfInBounds_toArray, List.set_cons_zero, List.set_cons_succ]
              refine wpAnyH_done (by kernel_rfl) ?_ _
              clear hHeld
              go_wp2_with fail
              go_ret
              have hE : poolE ⟨a, b, p, d⟩ m = (⟨m.epoch, m.hosts, m.osds, m.pools ++ [⟨a, b, p, d⟩], m.bans⟩, true) := by unfold poolE; rw [if_neg (by rw [HL.out]; exact h2)]
              rw [hE]
              have HO6 := HO5.out
              rw [List.length_append] at HO6
              exact ⟨rfl, HG2.out.pools HK5.out HO6, below_set1 (((Far.of HB.out HBB.out).trans (Far.of (show Below W.heap.size W (W.alloc (.cells #[.int .i64 a, .int .i64 b, .int .i64 p, .int .i64 d] 85)).drew from below_drew (below_new W _)) (HBB.out.mono HB.out.size))).trans HF5.out) HG2.out.1 _ _⟩
            exact AllReadyH.nil
          exact AllReadyH.nil
        exact AllReadyH.nil
      refine AllReadyH.cons (o := { dst := some 20, op := Op.buildSlice 80 1 #[(0, Operand.tmp 19)], type := 80, pos := "sheet.go:89", after := #[{ on := 7, ground := Ground.data }], guard := none }) rfl (fun K7 hK7 => ?_) ?_
      · go_simp
        refine hK7.out _ _ (trivial) (fun hHeld => ?_)
        clear hK7 K7
        try simp only [Act.put, List.setIfInBounds_toArray, List.set_cons_zero, List.set_cons_succ]
        refine wpAnyH_ready (rs := [5]) (by kernel_rfl) (by simp) ?_
        refine AllReadyH.cons (o := { dst := some 17, op := Op.load 80 (Operand.tmp 16), type := 80, pos := "sheet.go:89", after := #[{ on := 4, ground := Ground.data }], guard := none }) rfl (fun K7 hK7 => ?_) ?_
        · go_simp
          refine hK7.out _ _ (trivial) (fun hHeld => ?_)
          clear hK7 K7
          try simp only [Act.put, List.setIfInBounds_toArray, List.set_cons_zero, List.set_cons_succ]
          refine wpAnyH_ready (rs := [9]) (by kernel_rfl) (by simp) ?_
          refine AllReadyH.cons (o := { dst := some 21, op := Op.call { callee := Callee.builtin Builtin.append, args := #[Operand.tmp 17, Operand.tmp 20], argTypes := #[80, 80] }, type := 80, pos := "sheet.go:89", after := #[{ on := 5, ground := Ground.data }, { on := 8, ground := Ground.data }], guard := none }) rfl (fun K7 hK7 => ?_) ?_
          · refine step_app1P pc_len pc_one (by decide) (.tmp 17) (.tmp 20) 80 rfl B 85 _ (by rfl) 32 Try.underlying80 infoPool (.slice ap L cp) m.pools rfl HP2.out _ ⟨a, b, p, d⟩ rfl HS2.out (by rw [HL.out]; unfold maxLen; omega) (by rw [HL.out]; omega) HBU.out ?_
            intro v5 w5 ho hk hgr
            obtain ⟨a5, cc5, rfl⟩ := ho.slice
            have HO5 := Lib.hid ho; have HK5 := Lib.hid hk; have HF5 := Lib.hid hgr
            have HX5 : Hid (MBox w5 S 185 m.epoch vh (.slice (some ⟨g, 0, none⟩) m.osds.length cap) (.slice ap m.pools.length cp) vb) := Lib.hid (hk.box (by decide) HM2.out)
            have s5 := HX5.out.cells.2.2.2.1
            have t5 := HX5.out.thaw 3
            clear ho hk hgr
            try dsimp only
            refine hK7.out _ _ (trivial) (fun hHeld => ?_)
            clear hK7 K7
            try simp only [Act.put, List.setIfInBounds_toArray, List.set_cons_zero, List.set_cons_succ]
            refine wpAnyH_take (i := 10) (oi := { dst := some 22, op := Op.nilCheck (Operand.tmp 12), type := 0, pos := "sheet.go:89", after := #[{ on := 0, ground := Ground.data }, { on := 0, ground := Ground.phase }, { on := 1, ground := Ground.phase }, { on := 2, ground := Ground.phase }, { on := 3, ground := Ground.phase }, { on := 4, ground := Ground.phase }, { on := 5, ground := Ground.phase }, { on := 6, ground := Ground.phase }, { on := 7, ground := Ground.phase }, { on := 8, ground := Ground.phase }, { on := 9, ground := Ground.phase }], guard := none }) (v := ?_) rfl (by kernel_rfl) (by kernel_rfl) (by kernel_rfl) (fun _ _ _ h => h) (Or.inl ⟨by rfl, ?_⟩) hHeld ?_
            rotate_left 1
            · intro W hSw
              (try dsimp only at hSw)
              go_simp
              try with_reducible rfl
            try simp only [Act.put, List.setIfInBounds_toArray, List.set_cons_zero, List.set_cons_succ]
            refine wpAnyH_take (i := 11) (oi := { dst := some 23, op := Op.fieldAddr 185 (Operand.tmp 22) 0, type := 0, pos := "sheet.go:89", after := #[{ on := 10, ground := Ground.data }, { on := 0, ground := Ground.phase }, { on := 1, ground := Ground.phase }, { on := 2, ground := Ground.phase }, { on := 3, ground := Ground.phase }, { on := 4, ground := Ground.phase }, { on := 5, ground := Ground.phase }, { on := 6, ground := Ground.phase }, { on := 7, ground := Ground.phase }, { on := 8, ground := Ground.phase }, { on := 9, ground := Ground.phase }], guard := none }) (v := ?_) rfl (by kernel_rfl) (by kernel_rfl) (by kernel_rfl) (fun _ _ _ h => h) (Or.inl ⟨by rfl, ?_⟩) hHeld ?_
            rotate_left 1
            · intro W hSw
              (try dsimp only at hSw)
              go_simp
              try with_reducible rfl
            try simp only [Act.put, List.setIfInBounds_toArray, List.set_cons_zero, List.set_cons_succ]
            refine wpAnyH_take (i := 12) (oi := { dst := some 24, op := Op.fieldAddr 83 (Operand.tmp 23) 3, type := 0, pos := "sheet.go:89", after := #[{ on := 11, ground := Ground.data }, { on := 0, ground := Ground.phase }, { on := 1, ground := Ground.phase }, { on := 2, ground := Ground.phase }, { on := 3, ground := Ground.phase }, { on := 4, ground := Ground.phase }, { on := 5, ground := Ground.phase }, { on := 6, ground := Ground.phase }, { on := 7, ground := Ground.phase }, { on := 8, ground := Ground.phase }, { on := 9, ground := Ground.phase }], guard := none }) (v := ?_) rfl (by kernel_rfl) (by kernel_rfl) (by kernel_rfl) (fun _ _ _ h => h) (Or.inl ⟨by rfl, ?_⟩) hHeld ?_
            rotate_left 1
            · intro W hSw
              (try dsimp only at hSw)
              go_simp
              try with_reducible rfl
            try simp only [Act.put, List.setIfInBounds_toArray, List.set_cons_zero, List.set_cons_succ]
            refine wpAnyH_ready (rs := [13]) (by kernel_rfl) (by simp) ?_
            refine AllReadyH.cons (o := { dst := none, op := Op.store 80 (Operand.tmp 24) (Operand.tmp 21), type := 0, pos := "sheet.go:89", after := #[{ on := 12, ground := Ground.data }, { on := 9, ground := Ground.data }, { on := 9, ground := Ground.chain }, { on := 0, ground := Ground.phase }, { on := 1, ground := Ground.phase }, { on := 2, ground := Ground.phase }, { on := 3, ground := Ground.phase }, { on := 4, ground := Ground.phase }, { on := 5, ground := Ground.phase }, { on := 6, ground := Ground.phase }, { on := 7, ground := Ground.phase }, { on := 8, ground := Ground.phase }, { on := 9, ground := Ground.phase }], guard := none }) rfl (fun K7 hK7 => ?_) ?_
            · go_simp
              refine hK7.out _ _ (trivial) (fun hHeld => ?_)
              clear hK7 K7
              try simp only [Act.put, List.setIfInBounds_toArray, List.set_cons_zero, List.set_cons_succ]
              refine wpAnyH_done (by kernel_rfl) ?_ _
              clear hHeld
              go_wp2_with fail
              go_ret
              have hE : poolE ⟨a, b, p, d⟩ m = (⟨m.epoch, m.hosts, m.osds, m.pools ++ [⟨a, b, p, d⟩], m.bans⟩, true) := by unfold poolE; rw [if_neg (by rw [HL.out]; exact h2)]
              rw [hE]
              have HO6 := HO5.out
              rw [List.length_append] at HO6
              exact ⟨rfl, HG2.out.pools HK5.out HO6, below_set1 (((Far.of HB.out HBB.out).trans (Far.of (show Below W.heap.size W (W.alloc (.cells #[.int .i64 a, .int .i64 b, .int .i64 p, .int .i64 d] 85)).drew from below_drew (below_new W _)) (HBB.out.mono HB.out.size))).trans HF5.out) HG2.out.1 _ _⟩
            exact AllReadyH.nil
          exact AllReadyH.nil
        exact AllReadyH.nil
      exact AllReadyH.nil
    exact AllReadyH.nil
    --R3E
end Go.Proofs.Ytcofmfjhgbihkaa.crush
