/- A sheet: a map in memory of its own. -/
import Derived.Test.YtcofmfjhgbihkaaRows
import Derived.Test.YtcofmfjhgbihkaaMapsFitM
import Derived.Test.YtcofmfjhgbihkaaMapsClone
import Derived.Test.YtcofmfjhgbihkaaHeldIn
namespace Go.Proofs.Ytcofmfjhgbihkaa.crush
open Go.RowKit
open Go.Proofs.Ytcofmfjhgbihkaa.kit Go.Proofs.Ytcofmfjhgbihkaa.own
set_option linter.unusedVariables false
set_option linter.unusedSimpArgs false

/-- Rows small enough to be copied. -/
def MapV.Small (m : MapV) : Prop := m.hosts.length * 8 ≤ 140737488355328 ∧ m.osds.length * 32 ≤ 140737488355328 ∧ m.pools.length * 32 ≤ 140737488355328 ∧ m.bans.length * 16 ≤ 140737488355328
/-- A map in rows of the call's own, from block B on. -/
def MapO (w : World) (B : Nat) (vh vo vp vb : Value) (m : MapV) : Prop := Own ic 1 3 w B vh m.hosts ∧ Own oc 4 132 w B vo m.osds ∧ Own pc 4 85 w B vp m.pools ∧ Own bc 2 136 w B vb m.bans
/-- A sheet. -/
def SheetAt (w : World) (B S : Nat) (m : MapV) : Prop := B ≤ S ∧ ∃ vh vo vp vb, MBox w S 185 m.epoch vh vo vp vb ∧ MapO w B vh vo vp vb m

theorem MBox.set12 {W : World} {N : Nat} {t : TypeId} {ep : Int} {vh vo vp vb : Value} (h : MBox W N t ep vh vo vp vb) (x y : Value) : MBox ((W.setCell ⟨N, 1, none⟩ x).setCell ⟨N, 2, none⟩ y) N t ep x y vp vb := by
  have h1 := heap_setCell_same W N 1 _ _ x h
  have h2 := heap_setCell_same _ N 2 _ _ y h1
  exact h2
theorem MBox.set34 {W : World} {N : Nat} {t : TypeId} {ep : Int} {vh vo vp vb : Value} (h : MBox W N t ep vh vo vp vb) (x y : Value) : MBox ((W.setCell ⟨N, 3, none⟩ x).setCell ⟨N, 4, none⟩ y) N t ep vh vo x y := by
  have h1 := heap_setCell_same W N 3 _ _ x h
  have h2 := heap_setCell_same _ N 4 _ _ y h1
  exact h2
theorem Own.set2 {α : Type} {enc : α → List Value} {k e B : Nat} {W : World} {v : Value} {xs : List α} (h : Own enc k e W B v xs) {N : Nat} (hN : N < B) (o : Nat) (u : Value) (o' : Nat) (u' : Value) : Own enc k e ((W.setCell ⟨N, o, none⟩ u).setCell ⟨N, o', none⟩ u') B v xs :=
  (h.setOther (fun e => by have := (h.blk _ e).1; omega) o u).setOther (fun e => by have := (h.blk _ e).1; omega) o' u'

theorem sheet_new {w W : World} {m : MapV} {vh vo vp vb : Value} (hb : Below w.heap.size w W) (h1 : Own ic 1 3 W (w.heap.size + 1) vh m.hosts) (h2 : Own oc 4 132 W (w.heap.size + 1) vo m.osds) (h3 : Own pc 4 85 W (w.heap.size + 1) vp m.pools) (h4 : Own bc 2 136 W (w.heap.size + 1) vb m.bans) (hN : w.heap.size < W.heap.size) :
    SheetAt (W.alloc (.cells #[.int .i64 m.epoch, vh, vo, vp, vb] 185)) w.heap.size W.heap.size m ∧ Below w.heap.size w (W.alloc (.cells #[.int .i64 m.epoch, vh, vo, vp, vb] 185)) := by
  have hb2 := below_new W (.cells #[.int .i64 m.epoch, vh, vo, vp, vb] 185)
  exact ⟨⟨by omega, vh, vo, vp, vb, mbox_new _ _ _ _ _ _ _, (h1.below hb2).mono (by omega), (h2.below hb2).mono (by omega), (h3.below hb2).mono (by omega), (h4.below hb2).mono (by omega)⟩, hb.trans (hb2.mono hb.size)⟩

set_option maxHeartbeats 16000000 in
set_option maxRecDepth 100000 in
theorem copied_any (v : Value) (m : MapV) (w : World) (h : MapR w v m) (hs : m.Small) :
    Calls Try.prog 108 #[v] w fun e w' => ∃ S, e = .returned (.pointer (some ⟨S, 0, none⟩)) ∧ SheetAt w' w.heap.size S m ∧ Below w.heap.size w w' := by
  obtain ⟨vh, vo, vp, vb, rfl, h1, h2, h3, h4⟩ := h
  obtain ⟨s1, s2, s3, s4⟩ := hs
  have HC1 := Lib.hid (fun u (hu : Below w.heap.size w u) => cloneI vh m.hosts u (h1.keep hu) s1)
  have HC2 := Lib.hid (fun u (hu : Below w.heap.size w u) => cloneO vo m.osds u (h2.keep hu) s2)
  have HC3 := Lib.hid (fun u (hu : Below w.heap.size w u) => cloneP vp m.pools u (h3.keep hu) s3)
  have HC4 := Lib.hid (fun u (hu : Below w.heap.size w u) => cloneB vb m.bans u (h4.keep hu) s4)
  obtain ⟨ah, ch, rfl⟩ := h1.slice
  obtain ⟨ao, co, rfl⟩ := h2.slice
  obtain ⟨ap, cp, rfl⟩ := h3.slice
  obtain ⟨ab, cb, rfl⟩ := h4.slice
  generalize m.hosts.length = Lh at HC1 ⊢
  generalize m.osds.length = Lo at HC2 ⊢
  generalize m.pools.length = Lp at HC3 ⊢
  generalize m.bans.length = Lb at HC4 ⊢
  have HB := Lib.hid (below_new w (.cells #[.int .i64 m.epoch, .slice ah Lh ch, .slice ao Lo co, .slice ap Lp cp, .slice ab Lb cb] 83))
  have HX := Lib.hid (mbox_new w 83 m.epoch (.slice ah Lh ch) (.slice ao Lo co) (.slice ap Lp cp) (.slice ab Lb cb))
  clear h1 h2 h3 h4 s1 s2 s3 s4
  go_enter Try.func108, Try.ntmps108
  go_upto_region 1 with fail
  generalize (w.alloc (.cells #[.int .i64 m.epoch, .slice ah Lh ch, .slice ao Lo co, .slice ap Lp cp, .slice ab Lb cb] 83)) = W at HB HX ⊢
  have mixed : Try.prog.follows .mixedOrders = true := by kernel_rfl
  have HBd := Lib.hid (below_drew HB.out)
  have HXd := Lib.hid (show MBox W.drew w.heap.size 83 m.epoch (.slice ah Lh ch) (.slice ao Lo co) (.slice ap Lp cp) (.slice ab Lb cb) from HX.out)
  obtain ⟨l0, l1, l2, l3, l4⟩ := HXd.out.cells
  --CP1
  refine wp_region_held_drew (S := fun _ => True) (by kernel_rfl) (trivial) (fun hHeld => ?_)
  refine wpAnyH_take (i := 0) (oi := { dst := some 3, op := Op.fieldAddr 83 (Operand.tmp 1) 1, type := 0, pos := "sheet.go:15", after := #[], guard := none }) (v := ?_) rfl (by kernel_rfl) (by kernel_rfl) (by kernel_rfl) (fun _ _ _ h => h) (Or.inl ⟨by rfl, ?_⟩) hHeld ?_
  rotate_left 1
  · intro W hSw
    (try dsimp only at hSw)
    go_simp
    try with_reducible rfl
  try simp only [Act.put, List.setIfInBounds_toArray, List.set_cons_zero, List.set_cons_succ]
  refine wpAnyH_take (i := 3) (oi := { dst := some 6, op := Op.fieldAddr 83 (Operand.tmp 1) 2, type := 0, pos := "sheet.go:15", after := #[], guard := none }) (v := ?_) rfl (by kernel_rfl) (by kernel_rfl) (by kernel_rfl) (fun _ _ _ h => h) (Or.inl ⟨by rfl, ?_⟩) hHeld ?_
  rotate_left 1
  · intro W hSw
    (try dsimp only at hSw)
    go_simp
    try with_reducible rfl
  try simp only [Act.put, List.setIfInBounds_toArray, List.set_cons_zero, List.set_cons_succ]
  refine wpAnyH_ready (rs := [1, 4]) (by kernel_rfl) (by simp) ?_
  refine AllReadyH.cons (o := { dst := some 4, op := Op.load 25 (Operand.tmp 3), type := 25, pos := "sheet.go:15", after := #[{ on := 0, ground := Ground.data }], guard := none }) rfl (fun K7 hK7 => ?_) ?_
  · go_simp
    refine hK7.out _ _ (trivial) (fun hHeld => ?_)
    clear hK7 K7
    try simp only [Act.put, List.setIfInBounds_toArray, List.set_cons_zero, List.set_cons_succ]
    refine wpAnyH_ready (rs := [2, 4]) (by kernel_rfl) (by simp) ?_
    refine AllReadyH.cons (o := { dst := some 5, op := Op.call { callee := Callee.value (Operand.func 97), args := #[Operand.tmp 4], argTypes := #[25] }, type := 25, pos := "sheet.go:15", after := #[{ on := 1, ground := Ground.data }], guard := none }) rfl (fun K7 hK7 => ?_) ?_
    · go_simp
      refine (HC1.out _ HBd.out).mono ?_
      rintro e w5 ⟨v5, rfl, ho, hb⟩
      obtain ⟨a5, c5, rfl⟩ := ho.slice
      have HB5 := Lib.hid (HBd.out.trans (hb.mono HBd.out.size))
      have HX5 := Lib.hid (HXd.out.keep hb)
      have HO5 := Lib.hid (ho.mono (show w.heap.size + 1 ≤ _ from HXd.out.lt))
      obtain ⟨m0, m1, m2, m3, m4⟩ := HX5.out.cells
      clear hb ho
      try dsimp only
      refine hK7.out _ _ (trivial) (fun hHeld => ?_)
      clear hK7 K7
      try simp only [Act.put, List.setIfInBounds_toArray, List.set_cons_zero, List.set_cons_succ]
      refine wpAnyH_ready (rs := [4]) (by kernel_rfl) (by simp) ?_
      refine AllReadyH.cons (o := { dst := some 7, op := Op.load 79 (Operand.tmp 6), type := 79, pos := "sheet.go:15", after := #[{ on := 3, ground := Ground.data }], guard := none }) rfl (fun K7 hK7 => ?_) ?_
      · go_simp
        refine hK7.out _ _ (trivial) (fun hHeld => ?_)
        clear hK7 K7
        try simp only [Act.put, List.setIfInBounds_toArray, List.set_cons_zero, List.set_cons_succ]
        refine wpAnyH_take (i := 6) (oi := { dst := some 9, op := Op.fieldAddr 83 (Operand.tmp 1) 1, type := 0, pos := "sheet.go:15", after := #[{ on := 0, ground := Ground.phase }, { on := 1, ground := Ground.phase }, { on := 2, ground := Ground.phase }, { on := 3, ground := Ground.phase }, { on := 4, ground := Ground.phase }, { on := 5, ground := Ground.textOnly Departure.lateStoresUnsure }], guard := none }) (v := ?_) rfl (by kernel_rfl) (by kernel_rfl) (by kernel_rfl) (fun _ _ _ h => h) (Or.inl ⟨by rfl, ?_⟩) hHeld ?_
        rotate_left 1
        · intro W hSw
          (try dsimp only at hSw)
          go_simp
          try with_reducible rfl
        try simp only [Act.put, List.setIfInBounds_toArray, List.set_cons_zero, List.set_cons_succ]
        refine wpAnyH_ready (rs := [5]) (by kernel_rfl) (by simp) ?_
        refine AllReadyH.cons (o := { dst := some 8, op := Op.call { callee := Callee.value (Operand.func 124), args := #[Operand.tmp 7], argTypes := #[79] }, type := 79, pos := "sheet.go:15", after := #[{ on := 4, ground := Ground.data }, { on := 2, ground := Ground.chain }], guard := none }) rfl (fun K7 hK7 => ?_) ?_
        · go_simp
          refine (HC2.out _ HB5.out).mono ?_
          rintro e w6 ⟨v6, rfl, ho, hb⟩
          obtain ⟨a6, c6, rfl⟩ := ho.slice
          have HB6 := Lib.hid (HB5.out.trans (hb.mono HB5.out.size))
          have HX6 := Lib.hid (HX5.out.keep hb)
          have HO6 := Lib.hid (ho.mono (show w.heap.size + 1 ≤ _ from HX5.out.lt))
          have HO56 := Lib.hid (HO5.out.below hb)
          obtain ⟨j0, j1, j2, j3, j4⟩ := HX6.out.cells
          have t1 := HX6.out.thaw 1
          have t2 := HX6.out.thaw 2
          clear hb ho
          try dsimp only
          refine hK7.out _ _ (trivial) (fun hHeld => ?_)
          clear hK7 K7
          try simp only [Act.put, List.setIfInBounds_toArray, List.set_cons_zero, List.set_cons_succ]
          refine wpAnyH_ready (rs := [7]) (by kernel_rfl) (by simp) ?_
          refine AllReadyH.cons (o := { dst := none, op := Op.store 25 (Operand.tmp 9) (Operand.tmp 5), type := 0, pos := "sheet.go:15", after := #[{ on := 6, ground := Ground.data }, { on := 2, ground := Ground.data }, { on := 5, ground := Ground.chain }, { on := 0, ground := Ground.phase }, { on := 1, ground := Ground.phase }, { on := 2, ground := Ground.phase }, { on := 3, ground := Ground.phase }, { on := 4, ground := Ground.phase }, { on := 5, ground := Ground.textOnly Departure.lateStoresUnsure }], guard := none }) rfl (fun K7 hK7 => ?_) ?_
          · go_simp
            refine hK7.out _ _ (trivial) (fun hHeld => ?_)
            clear hK7 K7
            try simp only [Act.put, List.setIfInBounds_toArray, List.set_cons_zero, List.set_cons_succ]
            refine wpAnyH_take (i := 8) (oi := { dst := some 10, op := Op.fieldAddr 83 (Operand.tmp 1) 2, type := 0, pos := "sheet.go:15", after := #[{ on := 0, ground := Ground.phase }, { on := 1, ground := Ground.phase }, { on := 2, ground := Ground.phase }, { on := 3, ground := Ground.phase }, { on := 4, ground := Ground.phase }, { on := 5, ground := Ground.phase }, { on := 6, ground := Ground.phase }, { on := 7, ground := Ground.phase }], guard := none }) (v := ?_) rfl (by kernel_rfl) (by kernel_rfl) (by kernel_rfl) (fun _ _ _ h => h) (Or.inl ⟨by rfl, ?_⟩) hHeld ?_
            rotate_left 1
            · intro W hSw
              (try dsimp only at hSw)
              go_simp
              try with_reducible rfl
            try simp only [Act.put, List.setIfInBounds_toArray, List.set_cons_zero, List.set_cons_succ]
            refine wpAnyH_ready (rs := [9]) (by kernel_rfl) (by simp) ?_
            refine AllReadyH.cons (o := { dst := none, op := Op.store 79 (Operand.tmp 10) (Operand.tmp 8), type := 0, pos := "sheet.go:15", after := #[{ on := 8, ground := Ground.data }, { on := 5, ground := Ground.data }, { on := 7, ground := Ground.chain }, { on := 0, ground := Ground.phase }, { on := 1, ground := Ground.phase }, { on := 2, ground := Ground.phase }, { on := 3, ground := Ground.phase }, { on := 4, ground := Ground.phase }, { on := 5, ground := Ground.phase }, { on := 6, ground := Ground.phase }, { on := 7, ground := Ground.phase }], guard := none }) rfl (fun K7 hK7 => ?_) ?_
            · go_simp
              refine hK7.out _ _ (trivial) (fun hHeld => ?_)
              clear hK7 K7
              try simp only [Act.put, List.setIfInBounds_toArray, List.set_cons_zero, List.set_cons_succ]
              refine wpAnyH_done (by kernel_rfl) ?_ _
              have HX7 := Lib.hid (HX6.out.set12 (.slice a5 m.hosts.length c5) (.slice a6 m.osds.length c6))
              have HB7 := Lib.hid ((HB6.out.setCell (p := ⟨w.heap.size, 1, none⟩) (Nat.le_refl _) (.slice a5 m.hosts.length c5)).setCell (p := ⟨w.heap.size, 2, none⟩) (Nat.le_refl _) (.slice a6 m.osds.length c6))
              have HOh := Lib.hid (HO56.out.set2 (N := w.heap.size) (Nat.lt_succ_self _) 1 (.slice a5 m.hosts.length c5) 2 (.slice a6 m.osds.length c6))
              have HOo := Lib.hid (HO6.out.set2 (N := w.heap.size) (Nat.lt_succ_self _) 1 (.slice a5 m.hosts.length c5) 2 (.slice a6 m.osds.length c6))
              generalize (w6.setCell ⟨w.heap.size, 1, none⟩ (.slice a5 m.hosts.length c5)).setCell ⟨w.heap.size, 2, none⟩ (.slice a6 m.osds.length c6) = W7 at HX7 HB7 HOh HOo ⊢
              clear HO56 HO6 HO5 HX6 HB6 HX5 HB5 j0 j1 j2 j3 j4 m0 m1 m2 m3 m4 l0 l1 l2 l3 l4 t1 t2 HC1 HC2 HX HB HBd HXd
              go_upto_region 2 with fail
              have HBd := Lib.hid (below_drew HB7.out)
              have HXd := Lib.hid (show MBox W7.drew w.heap.size 83 m.epoch (.slice a5 m.hosts.length c5) (.slice a6 m.osds.length c6) (.slice ap Lp cp) (.slice ab Lb cb) from HX7.out)
              have HOhd := Lib.hid (show Own ic 1 3 W7.drew (w.heap.size + 1) (.slice a5 m.hosts.length c5) m.hosts from HOh.out)
              have HOod := Lib.hid (show Own oc 4 132 W7.drew (w.heap.size + 1) (.slice a6 m.osds.length c6) m.osds from HOo.out)
              obtain ⟨l0, l1, l2, l3, l4⟩ := HXd.out.cells
              refine wp_region_held_drew (S := fun _ => True) (by kernel_rfl) (trivial) (fun hHeld => ?_)
              refine wpAnyH_take (i := 0) (oi := { dst := some 11, op := Op.fieldAddr 83 (Operand.tmp 1) 3, type := 0, pos := "sheet.go:16", after := #[], guard := none }) (v := ?_) rfl (by kernel_rfl) (by kernel_rfl) (by kernel_rfl) (fun _ _ _ h => h) (Or.inl ⟨by rfl, ?_⟩) hHeld ?_
              rotate_left 1
              · intro W hSw
                (try dsimp only at hSw)
                go_simp
                try with_reducible rfl
              try simp only [Act.put, List.setIfInBounds_toArray, List.set_cons_zero, List.set_cons_succ]
              refine wpAnyH_take (i := 3) (oi := { dst := some 14, op := Op.fieldAddr 83 (Operand.tmp 1) 4, type := 0, pos := "sheet.go:16", after := #[], guard := none }) (v := ?_) rfl (by kernel_rfl) (by kernel_rfl) (by kernel_rfl) (fun _ _ _ h => h) (Or.inl ⟨by rfl, ?_⟩) hHeld ?_
              rotate_left 1
              · intro W hSw
                (try dsimp only at hSw)
                go_simp
                try with_reducible rfl
              try simp only [Act.put, List.setIfInBounds_toArray, List.set_cons_zero, List.set_cons_succ]
              refine wpAnyH_ready (rs := [1, 4]) (by kernel_rfl) (by simp) ?_
              refine AllReadyH.cons (o := { dst := some 12, op := Op.load 80 (Operand.tmp 11), type := 80, pos := "sheet.go:16", after := #[{ on := 0, ground := Ground.data }], guard := none }) rfl (fun K7 hK7 => ?_) ?_
              · go_simp
                refine hK7.out _ _ (trivial) (fun hHeld => ?_)
                clear hK7 K7
                try simp only [Act.put, List.setIfInBounds_toArray, List.set_cons_zero, List.set_cons_succ]
                refine wpAnyH_ready (rs := [2, 4]) (by kernel_rfl) (by simp) ?_
                refine AllReadyH.cons (o := { dst := some 13, op := Op.call { callee := Callee.value (Operand.func 125), args := #[Operand.tmp 12], argTypes := #[80] }, type := 80, pos := "sheet.go:16", after := #[{ on := 1, ground := Ground.data }], guard := none }) rfl (fun K7 hK7 => ?_) ?_
                · go_simp
                  refine (HC3.out _ HBd.out).mono ?_
                  rintro e w8 ⟨v8, rfl, ho, hb⟩
                  obtain ⟨a8, c8, rfl⟩ := ho.slice
                  have HB8 := Lib.hid (HBd.out.trans (hb.mono HBd.out.size))
                  have HX8 := Lib.hid (HXd.out.keep hb)
                  have HO8 := Lib.hid (ho.mono (show w.heap.size + 1 ≤ _ from HXd.out.lt))
                  have HOh8 := Lib.hid (HOhd.out.below hb)
                  have HOo8 := Lib.hid (HOod.out.below hb)
                  obtain ⟨m0, m1, m2, m3, m4⟩ := HX8.out.cells
                  clear hb ho
                  try dsimp only
                  refine hK7.out _ _ (trivial) (fun hHeld => ?_)
                  clear hK7 K7
                  try simp only [Act.put, List.setIfInBounds_toArray, List.set_cons_zero, List.set_cons_succ]
                  refine wpAnyH_ready (rs := [4]) (by kernel_rfl) (by simp) ?_
                  refine AllReadyH.cons (o := { dst := some 15, op := Op.load 81 (Operand.tmp 14), type := 81, pos := "sheet.go:16", after := #[{ on := 3, ground := Ground.data }], guard := none }) rfl (fun K7 hK7 => ?_) ?_
                  · go_simp
                    refine hK7.out _ _ (trivial) (fun hHeld => ?_)
                    clear hK7 K7
                    try simp only [Act.put, List.setIfInBounds_toArray, List.set_cons_zero, List.set_cons_succ]
                    refine wpAnyH_take (i := 6) (oi := { dst := some 17, op := Op.fieldAddr 83 (Operand.tmp 1) 3, type := 0, pos := "sheet.go:16", after := #[{ on := 0, ground := Ground.phase }, { on := 1, ground := Ground.phase }, { on := 2, ground := Ground.phase }, { on := 3, ground := Ground.phase }, { on := 4, ground := Ground.phase }, { on := 5, ground := Ground.textOnly Departure.lateStoresUnsure }], guard := none }) (v := ?_) rfl (by kernel_rfl) (by kernel_rfl) (by kernel_rfl) (fun _ _ _ h => h) (Or.inl ⟨by rfl, ?_⟩) hHeld ?_
                    rotate_left 1
                    · intro W hSw
                      (try dsimp only at hSw)
                      go_simp
                      try with_reducible rfl
                    try simp only [Act.put, List.setIfInBounds_toArray, List.set_cons_zero, List.set_cons_succ]
                    refine wpAnyH_ready (rs := [5]) (by kernel_rfl) (by simp) ?_
                    refine AllReadyH.cons (o := { dst := some 16, op := Op.call { callee := Callee.value (Operand.func 126), args := #[Operand.tmp 15], argTypes := #[81] }, type := 81, pos := "sheet.go:16", after := #[{ on := 4, ground := Ground.data }, { on := 2, ground := Ground.chain }], guard := none }) rfl (fun K7 hK7 => ?_) ?_
                    · go_simp
                      refine (HC4.out _ HB8.out).mono ?_
                      rintro e w9 ⟨v9, rfl, ho, hb⟩
                      obtain ⟨a9, c9, rfl⟩ := ho.slice
                      have HB9 := Lib.hid (HB8.out.trans (hb.mono HB8.out.size))
                      have HX9 := Lib.hid (HX8.out.keep hb)
                      have HO9 := Lib.hid (ho.mono (show w.heap.size + 1 ≤ _ from HX8.out.lt))
                      have HOh9 := Lib.hid (HOh8.out.below hb)
                      have HOo9 := Lib.hid (HOo8.out.below hb)
                      have HO89 := Lib.hid (HO8.out.below hb)
                      obtain ⟨j0, j1, j2, j3, j4⟩ := HX9.out.cells
                      have t3 := HX9.out.thaw 3
                      have t4 := HX9.out.thaw 4
                      clear hb ho
                      try dsimp only
                      refine hK7.out _ _ (trivial) (fun hHeld => ?_)
                      clear hK7 K7
                      try simp only [Act.put, List.setIfInBounds_toArray, List.set_cons_zero, List.set_cons_succ]
                      refine wpAnyH_ready (rs := [7]) (by kernel_rfl) (by simp) ?_
                      refine AllReadyH.cons (o := { dst := none, op := Op.store 80 (Operand.tmp 17) (Operand.tmp 13), type := 0, pos := "sheet.go:16", after := #[{ on := 6, ground := Ground.data }, { on := 2, ground := Ground.data }, { on := 5, ground := Ground.chain }, { on := 0, ground := Ground.phase }, { on := 1, ground := Ground.phase }, { on := 2, ground := Ground.phase }, { on := 3, ground := Ground.phase }, { on := 4, ground := Ground.phase }, { on := 5, ground := Ground.textOnly Departure.lateStoresUnsure }], guard := none }) rfl (fun K7 hK7 => ?_) ?_
                      · go_simp
                        refine hK7.out _ _ (trivial) (fun hHeld => ?_)
                        clear hK7 K7
                        try simp only [Act.put, List.setIfInBounds_toArray, List.set_cons_zero, List.set_cons_succ]
                        refine wpAnyH_take (i := 8) (oi := { dst := some 18, op := Op.fieldAddr 83 (Operand.tmp 1) 4, type := 0, pos := "sheet.go:16", after := #[{ on := 0, ground := Ground.phase }, { on := 1, ground := Ground.phase }, { on := 2, ground := Ground.phase }, { on := 3, ground := Ground.phase }, { on := 4, ground := Ground.phase }, { on := 5, ground := Ground.phase }, { on := 6, ground := Ground.phase }, { on := 7, ground := Ground.phase }], guard := none }) (v := ?_) rfl (by kernel_rfl) (by kernel_rfl) (by kernel_rfl) (fun _ _ _ h => h) (Or.inl ⟨by rfl, ?_⟩) hHeld ?_
                        rotate_left 1
                        · intro W hSw
                          (try dsimp only at hSw)
                          go_simp
                          try with_reducible rfl
                        try simp only [Act.put, List.setIfInBounds_toArray, List.set_cons_zero, List.set_cons_succ]
                        refine wpAnyH_ready (rs := [9]) (by kernel_rfl) (by simp) ?_
                        refine AllReadyH.cons (o := { dst := none, op := Op.store 81 (Operand.tmp 18) (Operand.tmp 16), type := 0, pos := "sheet.go:16", after := #[{ on := 8, ground := Ground.data }, { on := 5, ground := Ground.data }, { on := 7, ground := Ground.chain }, { on := 0, ground := Ground.phase }, { on := 1, ground := Ground.phase }, { on := 2, ground := Ground.phase }, { on := 3, ground := Ground.phase }, { on := 4, ground := Ground.phase }, { on := 5, ground := Ground.phase }, { on := 6, ground := Ground.phase }, { on := 7, ground := Ground.phase }], guard := none }) rfl (fun K7 hK7 => ?_) ?_
                        · go_simp
                          refine hK7.out _ _ (trivial) (fun hHeld => ?_)
                          clear hK7 K7
                          try simp only [Act.put, List.setIfInBounds_toArray, List.set_cons_zero, List.set_cons_succ]
                          refine wpAnyH_done (by kernel_rfl) ?_ _
                          have HX10 := Lib.hid (HX9.out.set34 (.slice a8 m.pools.length c8) (.slice a9 m.bans.length c9))
                          have HB10 := Lib.hid ((HB9.out.setCell (p := ⟨w.heap.size, 3, none⟩) (Nat.le_refl _) (.slice a8 m.pools.length c8)).setCell (p := ⟨w.heap.size, 4, none⟩) (Nat.le_refl _) (.slice a9 m.bans.length c9))
                          have HP1 := Lib.hid (HOh9.out.set2 (N := w.heap.size) (Nat.lt_succ_self _) 3 (.slice a8 m.pools.length c8) 4 (.slice a9 m.bans.length c9))
                          have HP2 := Lib.hid (HOo9.out.set2 (N := w.heap.size) (Nat.lt_succ_self _) 3 (.slice a8 m.pools.length c8) 4 (.slice a9 m.bans.length c9))
                          have HP3 := Lib.hid (HO89.out.set2 (N := w.heap.size) (Nat.lt_succ_self _) 3 (.slice a8 m.pools.length c8) 4 (.slice a9 m.bans.length c9))
                          have HP4 := Lib.hid (HO9.out.set2 (N := w.heap.size) (Nat.lt_succ_self _) 3 (.slice a8 m.pools.length c8) 4 (.slice a9 m.bans.length c9))
                          generalize (w9.setCell ⟨w.heap.size, 3, none⟩ (.slice a8 m.pools.length c8)).setCell ⟨w.heap.size, 4, none⟩ (.slice a9 m.bans.length c9) = W10 at HX10 HB10 HP1 HP2 HP3 HP4 ⊢
                          clear HOh9 HOo9 HO89 HO9 HX9 HB9 HX8 HB8 HOh8 HOo8 HO8 j0 j1 j2 j3 j4 m0 m1 m2 m3 m4 l0 l1 l2 l3 l4 t3 t4 HC3 HC4 HX7 HB7 HBd HXd HOhd HOod HOh HOo
                          obtain ⟨l0, l1, l2, l3, l4⟩ := HX10.out.cells
                          have HF := Lib.hid (sheet_new (m := m) HB10.out HP1.out HP2.out HP3.out HP4.out HX10.out.lt)
                          go_wp2
                          go_ret
                          exact ⟨_, rfl, HF.out⟩
                        exact AllReadyH.nil
                      exact AllReadyH.nil
                    exact AllReadyH.nil
                  exact AllReadyH.nil
                refine AllReadyH.cons (o := { dst := some 15, op := Op.load 81 (Operand.tmp 14), type := 81, pos := "sheet.go:16", after := #[{ on := 3, ground := Ground.data }], guard := none }) rfl (fun K7 hK7 => ?_) ?_
                · go_simp
                  refine hK7.out _ _ (trivial) (fun hHeld => ?_)
                  clear hK7 K7
                  try simp only [Act.put, List.setIfInBounds_toArray, List.set_cons_zero, List.set_cons_succ]
                  refine wpAnyH_ready (rs := [2]) (by kernel_rfl) (by simp) ?_
                  refine AllReadyH.cons (o := { dst := some 13, op := Op.call { callee := Callee.value (Operand.func 125), args := #[Operand.tmp 12], argTypes := #[80] }, type := 80, pos := "sheet.go:16", after := #[{ on := 1, ground := Ground.data }], guard := none }) rfl (fun K7 hK7 => ?_) ?_
                  · go_simp
                    refine (HC3.out _ HBd.out).mono ?_
                    rintro e w8 ⟨v8, rfl, ho, hb⟩
                    obtain ⟨a8, c8, rfl⟩ := ho.slice
                    have HB8 := Lib.hid (HBd.out.trans (hb.mono HBd.out.size))
                    have HX8 := Lib.hid (HXd.out.keep hb)
                    have HO8 := Lib.hid (ho.mono (show w.heap.size + 1 ≤ _ from HXd.out.lt))
                    have HOh8 := Lib.hid (HOhd.out.below hb)
                    have HOo8 := Lib.hid (HOod.out.below hb)
                    obtain ⟨m0, m1, m2, m3, m4⟩ := HX8.out.cells
                    clear hb ho
                    try dsimp only
                    refine hK7.out _ _ (trivial) (fun hHeld => ?_)
                    clear hK7 K7
                    try simp only [Act.put, List.setIfInBounds_toArray, List.set_cons_zero, List.set_cons_succ]
                    refine wpAnyH_take (i := 6) (oi := { dst := some 17, op := Op.fieldAddr 83 (Operand.tmp 1) 3, type := 0, pos := "sheet.go:16", after := #[{ on := 0, ground := Ground.phase }, { on := 1, ground := Ground.phase }, { on := 2, ground := Ground.phase }, { on := 3, ground := Ground.phase }, { on := 4, ground := Ground.phase }, { on := 5, ground := Ground.textOnly Departure.lateStoresUnsure }], guard := none }) (v := ?_) rfl (by kernel_rfl) (by kernel_rfl) (by kernel_rfl) (fun _ _ _ h => h) (Or.inl ⟨by rfl, ?_⟩) hHeld ?_
                    rotate_left 1
                    · intro W hSw
                      (try dsimp only at hSw)
                      go_simp
                      try with_reducible rfl
                    try simp only [Act.put, List.setIfInBounds_toArray, List.set_cons_zero, List.set_cons_succ]
                    refine wpAnyH_ready (rs := [5]) (by kernel_rfl) (by simp) ?_
                    refine AllReadyH.cons (o := { dst := some 16, op := Op.call { callee := Callee.value (Operand.func 126), args := #[Operand.tmp 15], argTypes := #[81] }, type := 81, pos := "sheet.go:16", after := #[{ on := 4, ground := Ground.data }, { on := 2, ground := Ground.chain }], guard := none }) rfl (fun K7 hK7 => ?_) ?_
                    · go_simp
                      refine (HC4.out _ HB8.out).mono ?_
                      rintro e w9 ⟨v9, rfl, ho, hb⟩
                      obtain ⟨a9, c9, rfl⟩ := ho.slice
                      have HB9 := Lib.hid (HB8.out.trans (hb.mono HB8.out.size))
                      have HX9 := Lib.hid (HX8.out.keep hb)
                      have HO9 := Lib.hid (ho.mono (show w.heap.size + 1 ≤ _ from HX8.out.lt))
                      have HOh9 := Lib.hid (HOh8.out.below hb)
                      have HOo9 := Lib.hid (HOo8.out.below hb)
                      have HO89 := Lib.hid (HO8.out.below hb)
                      obtain ⟨j0, j1, j2, j3, j4⟩ := HX9.out.cells
                      have t3 := HX9.out.thaw 3
                      have t4 := HX9.out.thaw 4
                      clear hb ho
                      try dsimp only
                      refine hK7.out _ _ (trivial) (fun hHeld => ?_)
                      clear hK7 K7
                      try simp only [Act.put, List.setIfInBounds_toArray, List.set_cons_zero, List.set_cons_succ]
                      refine wpAnyH_ready (rs := [7]) (by kernel_rfl) (by simp) ?_
                      refine AllReadyH.cons (o := { dst := none, op := Op.store 80 (Operand.tmp 17) (Operand.tmp 13), type := 0, pos := "sheet.go:16", after := #[{ on := 6, ground := Ground.data }, { on := 2, ground := Ground.data }, { on := 5, ground := Ground.chain }, { on := 0, ground := Ground.phase }, { on := 1, ground := Ground.phase }, { on := 2, ground := Ground.phase }, { on := 3, ground := Ground.phase }, { on := 4, ground := Ground.phase }, { on := 5, ground := Ground.textOnly Departure.lateStoresUnsure }], guard := none }) rfl (fun K7 hK7 => ?_) ?_
                      · go_simp
                        refine hK7.out _ _ (trivial) (fun hHeld => ?_)
                        clear hK7 K7
                        try simp only [Act.put, List.setIfInBounds_toArray, List.set_cons_zero, List.set_cons_succ]
                        refine wpAnyH_take (i := 8) (oi := { dst := some 18, op := Op.fieldAddr 83 (Operand.tmp 1) 4, type := 0, pos := "sheet.go:16", after := #[{ on := 0, ground := Ground.phase }, { on := 1, ground := Ground.phase }, { on := 2, ground := Ground.phase }, { on := 3, ground := Ground.phase }, { on := 4, ground := Ground.phase }, { on := 5, ground := Ground.phase }, { on := 6, ground := Ground.phase }, { on := 7, ground := Ground.phase }], guard := none }) (v := ?_) rfl (by kernel_rfl) (by kernel_rfl) (by kernel_rfl) (fun _ _ _ h => h) (Or.inl ⟨by rfl, ?_⟩) hHeld ?_
                        rotate_left 1
                        · intro W hSw
                          (try dsimp only at hSw)
                          go_simp
                          try with_reducible rfl
                        try simp only [Act.put, List.setIfInBounds_toArray, List.set_cons_zero, List.set_cons_succ]
                        refine wpAnyH_ready (rs := [9]) (by kernel_rfl) (by simp) ?_
                        refine AllReadyH.cons (o := { dst := none, op := Op.store 81 (Operand.tmp 18) (Operand.tmp 16), type := 0, pos := "sheet.go:16", after := #[{ on := 8, ground := Ground.data }, { on := 5, ground := Ground.data }, { on := 7, ground := Ground.chain }, { on := 0, ground := Ground.phase }, { on := 1, ground := Ground.phase }, { on := 2, ground := Ground.phase }, { on := 3, ground := Ground.phase }, { on := 4, ground := Ground.phase }, { on := 5, ground := Ground.phase }, { on := 6, ground := Ground.phase }, { on := 7, ground := Ground.phase }], guard := none }) rfl (fun K7 hK7 => ?_) ?_
                        · go_simp
                          refine hK7.out _ _ (trivial) (fun hHeld => ?_)
                          clear hK7 K7
                          try simp only [Act.put, List.setIfInBounds_toArray, List.set_cons_zero, List.set_cons_succ]
                          refine wpAnyH_done (by kernel_rfl) ?_ _
                          have HX10 := Lib.hid (HX9.out.set34 (.slice a8 m.pools.length c8) (.slice a9 m.bans.length c9))
                          have HB10 := Lib.hid ((HB9.out.setCell (p := ⟨w.heap.size, 3, none⟩) (Nat.le_refl _) (.slice a8 m.pools.length c8)).setCell (p := ⟨w.heap.size, 4, none⟩) (Nat.le_refl _) (.slice a9 m.bans.length c9))
                          have HP1 := Lib.hid (HOh9.out.set2 (N := w.heap.size) (Nat.lt_succ_self _) 3 (.slice a8 m.pools.length c8) 4 (.slice a9 m.bans.length c9))
                          have HP2 := Lib.hid (HOo9.out.set2 (N := w.heap.size) (Nat.lt_succ_self _) 3 (.slice a8 m.pools.length c8) 4 (.slice a9 m.bans.length c9))
                          have HP3 := Lib.hid (HO89.out.set2 (N := w.heap.size) (Nat.lt_succ_self _) 3 (.slice a8 m.pools.length c8) 4 (.slice a9 m.bans.length c9))
                          have HP4 := Lib.hid (HO9.out.set2 (N := w.heap.size) (Nat.lt_succ_self _) 3 (.slice a8 m.pools.length c8) 4 (.slice a9 m.bans.length c9))
                          generalize (w9.setCell ⟨w.heap.size, 3, none⟩ (.slice a8 m.pools.length c8)).setCell ⟨w.heap.size, 4, none⟩ (.slice a9 m.bans.length c9) = W10 at HX10 HB10 HP1 HP2 HP3 HP4 ⊢
                          clear HOh9 HOo9 HO89 HO9 HX9 HB9 HX8 HB8 HOh8 HOo8 HO8 j0 j1 j2 j3 j4 m0 m1 m2 m3 m4 l0 l1 l2 l3 l4 t3 t4 HC3 HC4 HX7 HB7 HBd HXd HOhd HOod HOh HOo
                          obtain ⟨l0, l1, l2, l3, l4⟩ := HX10.out.cells
                          have HF := Lib.hid (sheet_new (m := m) HB10.out HP1.out HP2.out HP3.out HP4.out HX10.out.lt)
                          go_wp2
                          go_ret
                          exact ⟨_, rfl, HF.out⟩
                        exact AllReadyH.nil
                      exact AllReadyH.nil
                    exact AllReadyH.nil
                  exact AllReadyH.nil
                exact AllReadyH.nil
              refine AllReadyH.cons (o := { dst := some 15, op := Op.load 81 (Operand.tmp 14), type := 81, pos := "sheet.go:16", after := #[{ on := 3, ground := Ground.data }], guard := none }) rfl (fun K7 hK7 => ?_) ?_
              · go_simp
                refine hK7.out _ _ (trivial) (fun hHeld => ?_)
                clear hK7 K7
                try simp only [Act.put, List.setIfInBounds_toArray, List.set_cons_zero, List.set_cons_succ]
                refine wpAnyH_ready (rs := [1]) (by kernel_rfl) (by simp) ?_
                refine AllReadyH.cons (o := { dst := some 12, op := Op.load 80 (Operand.tmp 11), type := 80, pos := "sheet.go:16", after := #[{ on := 0, ground := Ground.data }], guard := none }) rfl (fun K7 hK7 => ?_) ?_
                · go_simp
                  refine hK7.out _ _ (trivial) (fun hHeld => ?_)
                  clear hK7 K7
                  try simp only [Act.put, List.setIfInBounds_toArray, List.set_cons_zero, List.set_cons_succ]
                  refine wpAnyH_ready (rs := [2]) (by kernel_rfl) (by simp) ?_
                  refine AllReadyH.cons (o := { dst := some 13, op := Op.call { callee := Callee.value (Operand.func 125), args := #[Operand.tmp 12], argTypes := #[80] }, type := 80, pos := "sheet.go:16", after := #[{ on := 1, ground := Ground.data }], guard := none }) rfl (fun K7 hK7 => ?_) ?_
                  · go_simp
                    refine (HC3.out _ HBd.out).mono ?_
                    rintro e w8 ⟨v8, rfl, ho, hb⟩
                    obtain ⟨a8, c8, rfl⟩ := ho.slice
                    have HB8 := Lib.hid (HBd.out.trans (hb.mono HBd.out.size))
                    have HX8 := Lib.hid (HXd.out.keep hb)
                    have HO8 := Lib.hid (ho.mono (show w.heap.size + 1 ≤ _ from HXd.out.lt))
                    have HOh8 := Lib.hid (HOhd.out.below hb)
                    have HOo8 := Lib.hid (HOod.out.below hb)
                    obtain ⟨m0, m1, m2, m3, m4⟩ := HX8.out.cells
                    clear hb ho
                    try dsimp only
                    refine hK7.out _ _ (trivial) (fun hHeld => ?_)
                    clear hK7 K7
                    try simp only [Act.put, List.setIfInBounds_toArray, List.set_cons_zero, List.set_cons_succ]
                    refine wpAnyH_take (i := 6) (oi := { dst := some 17, op := Op.fieldAddr 83 (Operand.tmp 1) 3, type := 0, pos := "sheet.go:16", after := #[{ on := 0, ground := Ground.phase }, { on := 1, ground := Ground.phase }, { on := 2, ground := Ground.phase }, { on := 3, ground := Ground.phase }, { on := 4, ground := Ground.phase }, { on := 5, ground := Ground.textOnly Departure.lateStoresUnsure }], guard := none }) (v := ?_) rfl (by kernel_rfl) (by kernel_rfl) (by kernel_rfl) (fun _ _ _ h => h) (Or.inl ⟨by rfl, ?_⟩) hHeld ?_
                    rotate_left 1
                    · intro W hSw
                      (try dsimp only at hSw)
                      go_simp
                      try with_reducible rfl
                    try simp only [Act.put, List.setIfInBounds_toArray, List.set_cons_zero, List.set_cons_succ]
                    refine wpAnyH_ready (rs := [5]) (by kernel_rfl) (by simp) ?_
                    refine AllReadyH.cons (o := { dst := some 16, op := Op.call { callee := Callee.value (Operand.func 126), args := #[Operand.tmp 15], argTypes := #[81] }, type := 81, pos := "sheet.go:16", after := #[{ on := 4, ground := Ground.data }, { on := 2, ground := Ground.chain }], guard := none }) rfl (fun K7 hK7 => ?_) ?_
                    · go_simp
                      refine (HC4.out _ HB8.out).mono ?_
                      rintro e w9 ⟨v9, rfl, ho, hb⟩
                      obtain ⟨a9, c9, rfl⟩ := ho.slice
                      have HB9 := Lib.hid (HB8.out.trans (hb.mono HB8.out.size))
                      have HX9 := Lib.hid (HX8.out.keep hb)
                      have HO9 := Lib.hid (ho.mono (show w.heap.size + 1 ≤ _ from HX8.out.lt))
                      have HOh9 := Lib.hid (HOh8.out.below hb)
                      have HOo9 := Lib.hid (HOo8.out.below hb)
                      have HO89 := Lib.hid (HO8.out.below hb)
                      obtain ⟨j0, j1, j2, j3, j4⟩ := HX9.out.cells
                      have t3 := HX9.out.thaw 3
                      have t4 := HX9.out.thaw 4
                      clear hb ho
                      try dsimp only
                      refine hK7.out _ _ (trivial) (fun hHeld => ?_)
                      clear hK7 K7
                      try simp only [Act.put, List.setIfInBounds_toArray, List.set_cons_zero, List.set_cons_succ]
                      refine wpAnyH_ready (rs := [7]) (by kernel_rfl) (by simp) ?_
                      refine AllReadyH.cons (o := { dst := none, op := Op.store 80 (Operand.tmp 17) (Operand.tmp 13), type := 0, pos := "sheet.go:16", after := #[{ on := 6, ground := Ground.data }, { on := 2, ground := Ground.data }, { on := 5, ground := Ground.chain }, { on := 0, ground := Ground.phase }, { on := 1, ground := Ground.phase }, { on := 2, ground := Ground.phase }, { on := 3, ground := Ground.phase }, { on := 4, ground := Ground.phase }, { on := 5, ground := Ground.textOnly Departure.lateStoresUnsure }], guard := none }) rfl (fun K7 hK7 => ?_) ?_
                      · go_simp
                        refine hK7.out _ _ (trivial) (fun hHeld => ?_)
                        clear hK7 K7
                        try simp only [Act.put, List.setIfInBounds_toArray, List.set_cons_zero, List.set_cons_succ]
                        refine wpAnyH_take (i := 8) (oi := { dst := some 18, op := Op.fieldAddr 83 (Operand.tmp 1) 4, type := 0, pos := "sheet.go:16", after := #[{ on := 0, ground := Ground.phase }, { on := 1, ground := Ground.phase }, { on := 2, ground := Ground.phase }, { on := 3, ground := Ground.phase }, { on := 4, ground := Ground.phase }, { on := 5, ground := Ground.phase }, { on := 6, ground := Ground.phase }, { on := 7, ground := Ground.phase }], guard := none }) (v := ?_) rfl (by kernel_rfl) (by kernel_rfl) (by kernel_rfl) (fun _ _ _ h => h) (Or.inl ⟨by rfl, ?_⟩) hHeld ?_
                        rotate_left 1
                        · intro W hSw
                          (try dsimp only at hSw)
                          go_simp
                          try with_reducible rfl
                        try simp only [Act.put, List.setIfInBounds_toArray, List.set_cons_zero, List.set_cons_succ]
                        refine wpAnyH_ready (rs := [9]) (by kernel_rfl) (by simp) ?_
                        refine AllReadyH.cons (o := { dst := none, op := Op.store 81 (Operand.tmp 18) (Operand.tmp 16), type := 0, pos := "sheet.go:16", after := #[{ on := 8, ground := Ground.data }, { on := 5, ground := Ground.data }, { on := 7, ground := Ground.chain }, { on := 0, ground := Ground.phase }, { on := 1, ground := Ground.phase }, { on := 2, ground := Ground.phase }, { on := 3, ground := Ground.phase }, { on := 4, ground := Ground.phase }, { on := 5, ground := Ground.phase }, { on := 6, ground := Ground.phase }, { on := 7, ground := Ground.phase }], guard := none }) rfl (fun K7 hK7 => ?_) ?_
                        · go_simp
                          refine hK7.out _ _ (trivial) (fun hHeld => ?_)
                          clear hK7 K7
                          try simp only [Act.put, List.setIfInBounds_toArray, List.set_cons_zero, List.set_cons_succ]
                          refine wpAnyH_done (by kernel_rfl) ?_ _
                          have HX10 := Lib.hid (HX9.out.set34 (.slice a8 m.pools.length c8) (.slice a9 m.bans.length c9))
                          have HB10 := Lib.hid ((HB9.out.setCell (p := ⟨w.heap.size, 3, none⟩) (Nat.le_refl _) (.slice a8 m.pools.length c8)).setCell (p := ⟨w.heap.size, 4, none⟩) (Nat.le_refl _) (.slice a9 m.bans.length c9))
                          have HP1 := Lib.hid (HOh9.out.set2 (N := w.heap.size) (Nat.lt_succ_self _) 3 (.slice a8 m.pools.length c8) 4 (.slice a9 m.bans.length c9))
                          have HP2 := Lib.hid (HOo9.out.set2 (N := w.heap.size) (Nat.lt_succ_self _) 3 (.slice a8 m.pools.length c8) 4 (.slice a9 m.bans.length c9))
                          have HP3 := Lib.hid (HO89.out.set2 (N := w.heap.size) (Nat.lt_succ_self _) 3 (.slice a8 m.pools.length c8) 4 (.slice a9 m.bans.length c9))
                          have HP4 := Lib.hid (HO9.out.set2 (N := w.heap.size) (Nat.lt_succ_self _) 3 (.slice a8 m.pools.length c8) 4 (.slice a9 m.bans.length c9))
                          generalize (w9.setCell ⟨w.heap.size, 3, none⟩ (.slice a8 m.pools.length c8)).setCell ⟨w.heap.size, 4, none⟩ (.slice a9 m.bans.length c9) = W10 at HX10 HB10 HP1 HP2 HP3 HP4 ⊢
                          clear HOh9 HOo9 HO89 HO9 HX9 HB9 HX8 HB8 HOh8 HOo8 HO8 j0 j1 j2 j3 j4 m0 m1 m2 m3 m4 l0 l1 l2 l3 l4 t3 t4 HC3 HC4 HX7 HB7 HBd HXd HOhd HOod HOh HOo
                          obtain ⟨l0, l1, l2, l3, l4⟩ := HX10.out.cells
                          have HF := Lib.hid (sheet_new (m := m) HB10.out HP1.out HP2.out HP3.out HP4.out HX10.out.lt)
                          go_wp2
                          go_ret
                          exact ⟨_, rfl, HF.out⟩
                        exact AllReadyH.nil
                      exact AllReadyH.nil
                    exact AllReadyH.nil
                  exact AllReadyH.nil
                exact AllReadyH.nil
              exact AllReadyH.nil
            exact AllReadyH.nil
          exact AllReadyH.nil
        exact AllReadyH.nil
      exact AllReadyH.nil
    refine AllReadyH.cons (o := { dst := some 7, op := Op.load 79 (Operand.tmp 6), type := 79, pos := "sheet.go:15", after := #[{ on := 3, ground := Ground.data }], guard := none }) rfl (fun K7 hK7 => ?_) ?_
    · go_simp
      refine hK7.out _ _ (trivial) (fun hHeld => ?_)
      clear hK7 K7
      try simp only [Act.put, List.setIfInBounds_toArray, List.set_cons_zero, List.set_cons_succ]
      refine wpAnyH_ready (rs := [2]) (by kernel_rfl) (by simp) ?_
      refine AllReadyH.cons (o := { dst := some 5, op := Op.call { callee := Callee.value (Operand.func 97), args := #[Operand.tmp 4], argTypes := #[25] }, type := 25, pos := "sheet.go:15", after := #[{ on := 1, ground := Ground.data }], guard := none }) rfl (fun K7 hK7 => ?_) ?_
      · go_simp
        refine (HC1.out _ HBd.out).mono ?_
        rintro e w5 ⟨v5, rfl, ho, hb⟩
        obtain ⟨a5, c5, rfl⟩ := ho.slice
        have HB5 := Lib.hid (HBd.out.trans (hb.mono HBd.out.size))
        have HX5 := Lib.hid (HXd.out.keep hb)
        have HO5 := Lib.hid (ho.mono (show w.heap.size + 1 ≤ _ from HXd.out.lt))
        obtain ⟨m0, m1, m2, m3, m4⟩ := HX5.out.cells
        clear hb ho
        try dsimp only
        refine hK7.out _ _ (trivial) (fun hHeld => ?_)
        clear hK7 K7
        try simp only [Act.put, List.setIfInBounds_toArray, List.set_cons_zero, List.set_cons_succ]
        refine wpAnyH_take (i := 6) (oi := { dst := some 9, op := Op.fieldAddr 83 (Operand.tmp 1) 1, type := 0, pos := "sheet.go:15", after := #[{ on := 0, ground := Ground.phase }, { on := 1, ground := Ground.phase }, { on := 2, ground := Ground.phase }, { on := 3, ground := Ground.phase }, { on := 4, ground := Ground.phase }, { on := 5, ground := Ground.textOnly Departure.lateStoresUnsure }], guard := none }) (v := ?_) rfl (by kernel_rfl) (by kernel_rfl) (by kernel_rfl) (fun _ _ _ h => h) (Or.inl ⟨by rfl, ?_⟩) hHeld ?_
        rotate_left 1
        · intro W hSw
          (try dsimp only at hSw)
          go_simp
          try with_reducible rfl
        try simp only [Act.put, List.setIfInBounds_toArray, List.set_cons_zero, List.set_cons_succ]
        refine wpAnyH_ready (rs := [5]) (by kernel_rfl) (by simp) ?_
        refine AllReadyH.cons (o := { dst := some 8, op := Op.call { callee := Callee.value (Operand.func 124), args := #[Operand.tmp 7], argTypes := #[79] }, type := 79, pos := "sheet.go:15", after := #[{ on := 4, ground := Ground.data }, { on := 2, ground := Ground.chain }], guard := none }) rfl (fun K7 hK7 => ?_) ?_
        · go_simp
          refine (HC2.out _ HB5.out).mono ?_
          rintro e w6 ⟨v6, rfl, ho, hb⟩
          obtain ⟨a6, c6, rfl⟩ := ho.slice
          have HB6 := Lib.hid (HB5.out.trans (hb.mono HB5.out.size))
          have HX6 := Lib.hid (HX5.out.keep hb)
          have HO6 := Lib.hid (ho.mono (show w.heap.size + 1 ≤ _ from HX5.out.lt))
          have HO56 := Lib.hid (HO5.out.below hb)
          obtain ⟨j0, j1, j2, j3, j4⟩ := HX6.out.cells
          have t1 := HX6.out.thaw 1
          have t2 := HX6.out.thaw 2
          clear hb ho
          try dsimp only
          refine hK7.out _ _ (trivial) (fun hHeld => ?_)
          clear hK7 K7
          try simp only [Act.put, List.setIfInBounds_toArray, List.set_cons_zero, List.set_cons_succ]
          refine wpAnyH_ready (rs := [7]) (by kernel_rfl) (by simp) ?_
          refine AllReadyH.cons (o := { dst := none, op := Op.store 25 (Operand.tmp 9) (Operand.tmp 5), type := 0, pos := "sheet.go:15", after := #[{ on := 6, ground := Ground.data }, { on := 2, ground := Ground.data }, { on := 5, ground := Ground.chain }, { on := 0, ground := Ground.phase }, { on := 1, ground := Ground.phase }, { on := 2, ground := Ground.phase }, { on := 3, ground := Ground.phase }, { on := 4, ground := Ground.phase }, { on := 5, ground := Ground.textOnly Departure.lateStoresUnsure }], guard := none }) rfl (fun K7 hK7 => ?_) ?_
          · go_simp
            refine hK7.out _ _ (trivial) (fun hHeld => ?_)
            clear hK7 K7
            try simp only [Act.put, List.setIfInBounds_toArray, List.set_cons_zero, List.set_cons_succ]
            refine wpAnyH_take (i := 8) (oi := { dst := some 10, op := Op.fieldAddr 83 (Operand.tmp 1) 2, type := 0, pos := "sheet.go:15", after := #[{ on := 0, ground := Ground.phase }, { on := 1, ground := Ground.phase }, { on := 2, ground := Ground.phase }, { on := 3, ground := Ground.phase }, { on := 4, ground := Ground.phase }, { on := 5, ground := Ground.phase }, { on := 6, ground := Ground.phase }, { on := 7, ground := Ground.phase }], guard := none }) (v := ?_) rfl (by kernel_rfl) (by kernel_rfl) (by kernel_rfl) (fun _ _ _ h => h) (Or.inl ⟨by rfl, ?_⟩) hHeld ?_
            rotate_left 1
            · intro W hSw
              (try dsimp only at hSw)
              go_simp
              try with_reducible rfl
            try simp only [Act.put, List.setIfInBounds_toArray, List.set_cons_zero, List.set_cons_succ]
            refine wpAnyH_ready (rs := [9]) (by kernel_rfl) (by simp) ?_
            refine AllReadyH.cons (o := { dst := none, op := Op.store 79 (Operand.tmp 10) (Operand.tmp 8), type := 0, pos := "sheet.go:15", after := #[{ on := 8, ground := Ground.data }, { on := 5, ground := Ground.data }, { on := 7, ground := Ground.chain }, { on := 0, ground := Ground.phase }, { on := 1, ground := Ground.phase }, { on := 2, ground := Ground.phase }, { on := 3, ground := Ground.phase }, { on := 4, ground := Ground.phase }, { on := 5, ground := Ground.phase }, { on := 6, ground := Ground.phase }, { on := 7, ground := Ground.phase }], guard := none }) rfl (fun K7 hK7 => ?_) ?_
            · go_simp
              refine hK7.out _ _ (trivial) (fun hHeld => ?_)
              clear hK7 K7
              try simp only [Act.put, List.setIfInBounds_toArray, List.set_cons_zero, List.set_cons_succ]
              refine wpAnyH_done (by kernel_rfl) ?_ _
              have HX7 := Lib.hid (HX6.out.set12 (.slice a5 m.hosts.length c5) (.slice a6 m.osds.length c6))
              have HB7 := Lib.hid ((HB6.out.setCell (p := ⟨w.heap.size, 1, none⟩) (Nat.le_refl _) (.slice a5 m.hosts.length c5)).setCell (p := ⟨w.heap.size, 2, none⟩) (Nat.le_refl _) (.slice a6 m.osds.length c6))
              have HOh := Lib.hid (HO56.out.set2 (N := w.heap.size) (Nat.lt_succ_self _) 1 (.slice a5 m.hosts.length c5) 2 (.slice a6 m.osds.length c6))
              have HOo := Lib.hid (HO6.out.set2 (N := w.heap.size) (Nat.lt_succ_self _) 1 (.slice a5 m.hosts.length c5) 2 (.slice a6 m.osds.length c6))
              generalize (w6.setCell ⟨w.heap.size, 1, none⟩ (.slice a5 m.hosts.length c5)).setCell ⟨w.heap.size, 2, none⟩ (.slice a6 m.osds.length c6) = W7 at HX7 HB7 HOh HOo ⊢
              clear HO56 HO6 HO5 HX6 HB6 HX5 HB5 j0 j1 j2 j3 j4 m0 m1 m2 m3 m4 l0 l1 l2 l3 l4 t1 t2 HC1 HC2 HX HB HBd HXd
              go_upto_region 2 with fail
              have HBd := Lib.hid (below_drew HB7.out)
              have HXd := Lib.hid (show MBox W7.drew w.heap.size 83 m.epoch (.slice a5 m.hosts.length c5) (.slice a6 m.osds.length c6) (.slice ap Lp cp) (.slice ab Lb cb) from HX7.out)
              have HOhd := Lib.hid (show Own ic 1 3 W7.drew (w.heap.size + 1) (.slice a5 m.hosts.length c5) m.hosts from HOh.out)
              have HOod := Lib.hid (show Own oc 4 132 W7.drew (w.heap.size + 1) (.slice a6 m.osds.length c6) m.osds from HOo.out)
              obtain ⟨l0, l1, l2, l3, l4⟩ := HXd.out.cells
              refine wp_region_held_drew (S := fun _ => True) (by kernel_rfl) (trivial) (fun hHeld => ?_)
              refine wpAnyH_take (i := 0) (oi := { dst := some 11, op := Op.fieldAddr 83 (Operand.tmp 1) 3, type := 0, pos := "sheet.go:16", after := #[], guard := none }) (v := ?_) rfl (by kernel_rfl) (by kernel_rfl) (by kernel_rfl) (fun _ _ _ h => h) (Or.inl ⟨by rfl, ?_⟩) hHeld ?_
              rotate_left 1
              · intro W hSw
                (try dsimp only at hSw)
                go_simp
                try with_reducible rfl
              try simp only [Act.put, List.setIfInBounds_toArray, List.set_cons_zero, List.set_cons_succ]
              refine wpAnyH_take (i := 3) (oi := { dst := some 14, op := Op.fieldAddr 83 (Operand.tmp 1) 4, type := 0, pos := "sheet.go:16", after := #[], guard := none }) (v := ?_) rfl (by kernel_rfl) (by kernel_rfl) (by kernel_rfl) (fun _ _ _ h => h) (Or.inl ⟨by rfl, ?_⟩) hHeld ?_
              rotate_left 1
              · intro W hSw
                (try dsimp only at hSw)
                go_simp
                try with_reducible rfl
              try simp only [Act.put, List.setIfInBounds_toArray, List.set_cons_zero, List.set_cons_succ]
              refine wpAnyH_ready (rs := [1, 4]) (by kernel_rfl) (by simp) ?_
              refine AllReadyH.cons (o := { dst := some 12, op := Op.load 80 (Operand.tmp 11), type := 80, pos := "sheet.go:16", after := #[{ on := 0, ground := Ground.data }], guard := none }) rfl (fun K7 hK7 => ?_) ?_
              · go_simp
                refine hK7.out _ _ (trivial) (fun hHeld => ?_)
                clear hK7 K7
                try simp only [Act.put, List.setIfInBounds_toArray, List.set_cons_zero, List.set_cons_succ]
                refine wpAnyH_ready (rs := [2, 4]) (by kernel_rfl) (by simp) ?_
                refine AllReadyH.cons (o := { dst := some 13, op := Op.call { callee := Callee.value (Operand.func 125), args := #[Operand.tmp 12], argTypes := #[80] }, type := 80, pos := "sheet.go:16", after := #[{ on := 1, ground := Ground.data }], guard := none }) rfl (fun K7 hK7 => ?_) ?_
                · go_simp
                  refine (HC3.out _ HBd.out).mono ?_
                  rintro e w8 ⟨v8, rfl, ho, hb⟩
                  obtain ⟨a8, c8, rfl⟩ := ho.slice
                  have HB8 := Lib.hid (HBd.out.trans (hb.mono HBd.out.size))
                  have HX8 := Lib.hid (HXd.out.keep hb)
                  have HO8 := Lib.hid (ho.mono (show w.heap.size + 1 ≤ _ from HXd.out.lt))
                  have HOh8 := Lib.hid (HOhd.out.below hb)
                  have HOo8 := Lib.hid (HOod.out.below hb)
                  obtain ⟨m0, m1, m2, m3, m4⟩ := HX8.out.cells
                  clear hb ho
                  try dsimp only
                  refine hK7.out _ _ (trivial) (fun hHeld => ?_)
                  clear hK7 K7
                  try simp only [Act.put, List.setIfInBounds_toArray, List.set_cons_zero, List.set_cons_succ]
                  refine wpAnyH_ready (rs := [4]) (by kernel_rfl) (by simp) ?_
                  refine AllReadyH.cons (o := { dst := some 15, op := Op.load 81 (Operand.tmp 14), type := 81, pos := "sheet.go:16", after := #[{ on := 3, ground := Ground.data }], guard := none }) rfl (fun K7 hK7 => ?_) ?_
                  · go_simp
                    refine hK7.out _ _ (trivial) (fun hHeld => ?_)
                    clear hK7 K7
                    try simp only [Act.put, List.setIfInBounds_toArray, List.set_cons_zero, List.set_cons_succ]
                    refine wpAnyH_take (i := 6) (oi := { dst := some 17, op := Op.fieldAddr 83 (Operand.tmp 1) 3, type := 0, pos := "sheet.go:16", after := #[{ on := 0, ground := Ground.phase }, { on := 1, ground := Ground.phase }, { on := 2, ground := Ground.phase }, { on := 3, ground := Ground.phase }, { on := 4, ground := Ground.phase }, { on := 5, ground := Ground.textOnly Departure.lateStoresUnsure }], guard := none }) (v := ?_) rfl (by kernel_rfl) (by kernel_rfl) (by kernel_rfl) (fun _ _ _ h => h) (Or.inl ⟨by rfl, ?_⟩) hHeld ?_
                    rotate_left 1
                    · intro W hSw
                      (try dsimp only at hSw)
                      go_simp
                      try with_reducible rfl
                    try simp only [Act.put, List.setIfInBounds_toArray, List.set_cons_zero, List.set_cons_succ]
                    refine wpAnyH_ready (rs := [5]) (by kernel_rfl) (by simp) ?_
                    refine AllReadyH.cons (o := { dst := some 16, op := Op.call { callee := Callee.value (Operand.func 126), args := #[Operand.tmp 15], argTypes := #[81] }, type := 81, pos := "sheet.go:16", after := #[{ on := 4, ground := Ground.data }, { on := 2, ground := Ground.chain }], guard := none }) rfl (fun K7 hK7 => ?_) ?_
                    · go_simp
                      refine (HC4.out _ HB8.out).mono ?_
                      rintro e w9 ⟨v9, rfl, ho, hb⟩
                      obtain ⟨a9, c9, rfl⟩ := ho.slice
                      have HB9 := Lib.hid (HB8.out.trans (hb.mono HB8.out.size))
                      have HX9 := Lib.hid (HX8.out.keep hb)
                      have HO9 := Lib.hid (ho.mono (show w.heap.size + 1 ≤ _ from HX8.out.lt))
                      have HOh9 := Lib.hid (HOh8.out.below hb)
                      have HOo9 := Lib.hid (HOo8.out.below hb)
                      have HO89 := Lib.hid (HO8.out.below hb)
                      obtain ⟨j0, j1, j2, j3, j4⟩ := HX9.out.cells
                      have t3 := HX9.out.thaw 3
                      have t4 := HX9.out.thaw 4
                      clear hb ho
                      try dsimp only
                      refine hK7.out _ _ (trivial) (fun hHeld => ?_)
                      clear hK7 K7
                      try simp only [Act.put, List.setIfInBounds_toArray, List.set_cons_zero, List.set_cons_succ]
                      refine wpAnyH_ready (rs := [7]) (by kernel_rfl) (by simp) ?_
                      refine AllReadyH.cons (o := { dst := none, op := Op.store 80 (Operand.tmp 17) (Operand.tmp 13), type := 0, pos := "sheet.go:16", after := #[{ on := 6, ground := Ground.data }, { on := 2, ground := Ground.data }, { on := 5, ground := Ground.chain }, { on := 0, ground := Ground.phase }, { on := 1, ground := Ground.phase }, { on := 2, ground := Ground.phase }, { on := 3, ground := Ground.phase }, { on := 4, ground := Ground.phase }, { on := 5, ground := Ground.textOnly Departure.lateStoresUnsure }], guard := none }) rfl (fun K7 hK7 => ?_) ?_
                      · go_simp
                        refine hK7.out _ _ (trivial) (fun hHeld => ?_)
                        clear hK7 K7
                        try simp only [Act.put, List.setIfInBounds_toArray, List.set_cons_zero, List.set_cons_succ]
                        refine wpAnyH_take (i := 8) (oi := { dst := some 18, op := Op.fieldAddr 83 (Operand.tmp 1) 4, type := 0, pos := "sheet.go:16", after := #[{ on := 0, ground := Ground.phase }, { on := 1, ground := Ground.phase }, { on := 2, ground := Ground.phase }, { on := 3, ground := Ground.phase }, { on := 4, ground := Ground.phase }, { on := 5, ground := Ground.phase }, { on := 6, ground := Ground.phase }, { on := 7, ground := Ground.phase }], guard := none }) (v := ?_) rfl (by kernel_rfl) (by kernel_rfl) (by kernel_rfl) (fun _ _ _ h => h) (Or.inl ⟨by rfl, ?_⟩) hHeld ?_
                        rotate_left 1
                        · intro W hSw
                          (try dsimp only at hSw)
                          go_simp
                          try with_reducible rfl
                        try simp only [Act.put, List.setIfInBounds_toArray, List.set_cons_zero, List.set_cons_succ]
                        refine wpAnyH_ready (rs := [9]) (by kernel_rfl) (by simp) ?_
                        refine AllReadyH.cons (o := { dst := none, op := Op.store 81 (Operand.tmp 18) (Operand.tmp 16), type := 0, pos := "sheet.go:16", after := #[{ on := 8, ground := Ground.data }, { on := 5, ground := Ground.data }, { on := 7, ground := Ground.chain }, { on := 0, ground := Ground.phase }, { on := 1, ground := Ground.phase }, { on := 2, ground := Ground.phase }, { on := 3, ground := Ground.phase }, { on := 4, ground := Ground.phase }, { on := 5, ground := Ground.phase }, { on := 6, ground := Ground.phase }, { on := 7, ground := Ground.phase }], guard := none }) rfl (fun K7 hK7 => ?_) ?_
                        · go_simp
                          refine hK7.out _ _ (trivial) (fun hHeld => ?_)
                          clear hK7 K7
                          try simp only [Act.put, List.setIfInBounds_toArray, List.set_cons_zero, List.set_cons_succ]
                          refine wpAnyH_done (by kernel_rfl) ?_ _
                          have HX10 := Lib.hid (HX9.out.set34 (.slice a8 m.pools.length c8) (.slice a9 m.bans.length c9))
                          have HB10 := Lib.hid ((HB9.out.setCell (p := ⟨w.heap.size, 3, none⟩) (Nat.le_refl _) (.slice a8 m.pools.length c8)).setCell (p := ⟨w.heap.size, 4, none⟩) (Nat.le_refl _) (.slice a9 m.bans.length c9))
                          have HP1 := Lib.hid (HOh9.out.set2 (N := w.heap.size) (Nat.lt_succ_self _) 3 (.slice a8 m.pools.length c8) 4 (.slice a9 m.bans.length c9))
                          have HP2 := Lib.hid (HOo9.out.set2 (N := w.heap.size) (Nat.lt_succ_self _) 3 (.slice a8 m.pools.length c8) 4 (.slice a9 m.bans.length c9))
                          have HP3 := Lib.hid (HO89.out.set2 (N := w.heap.size) (Nat.lt_succ_self _) 3 (.slice a8 m.pools.length c8) 4 (.slice a9 m.bans.length c9))
                          have HP4 := Lib.hid (HO9.out.set2 (N := w.heap.size) (Nat.lt_succ_self _) 3 (.slice a8 m.pools.length c8) 4 (.slice a9 m.bans.length c9))
                          generalize (w9.setCell ⟨w.heap.size, 3, none⟩ (.slice a8 m.pools.length c8)).setCell ⟨w.heap.size, 4, none⟩ (.slice a9 m.bans.length c9) = W10 at HX10 HB10 HP1 HP2 HP3 HP4 ⊢
                          clear HOh9 HOo9 HO89 HO9 HX9 HB9 HX8 HB8 HOh8 HOo8 HO8 j0 j1 j2 j3 j4 m0 m1 m2 m3 m4 l0 l1 l2 l3 l4 t3 t4 HC3 HC4 HX7 HB7 HBd HXd HOhd HOod HOh HOo
                          obtain ⟨l0, l1, l2, l3, l4⟩ := HX10.out.cells
                          have HF := Lib.hid (sheet_new (m := m) HB10.out HP1.out HP2.out HP3.out HP4.out HX10.out.lt)
                          go_wp2
                          go_ret
                          exact ⟨_, rfl, HF.out⟩
                        exact AllReadyH.nil
                      exact AllReadyH.nil
                    exact AllReadyH.nil
                  exact AllReadyH.nil
                refine AllReadyH.cons (o := { dst := some 15, op := Op.load 81 (Operand.tmp 14), type := 81, pos := "sheet.go:16", after := #[{ on := 3, ground := Ground.data }], guard := none }) rfl (fun K7 hK7 => ?_) ?_
                · go_simp
                  refine hK7.out _ _ (trivial) (fun hHeld => ?_)
                  clear hK7 K7
                  try simp only [Act.put, List.setIfInBounds_toArray, List.set_cons_zero, List.set_cons_succ]
                  refine wpAnyH_ready (rs := [2]) (by kernel_rfl) (by simp) ?_
                  refine AllReadyH.cons (o := { dst := some 13, op := Op.call { callee := Callee.value (Operand.func 125), args := #[Operand.tmp 12], argTypes := #[80] }, type := 80, pos := "sheet.go:16", after := #[{ on := 1, ground := Ground.data }], guard := none }) rfl (fun K7 hK7 => ?_) ?_
                  · go_simp
                    refine (HC3.out _ HBd.out).mono ?_
                    rintro e w8 ⟨v8, rfl, ho, hb⟩
                    obtain ⟨a8, c8, rfl⟩ := ho.slice
                    have HB8 := Lib.hid (HBd.out.trans (hb.mono HBd.out.size))
                    have HX8 := Lib.hid (HXd.out.keep hb)
                    have HO8 := Lib.hid (ho.mono (show w.heap.size + 1 ≤ _ from HXd.out.lt))
                    have HOh8 := Lib.hid (HOhd.out.below hb)
                    have HOo8 := Lib.hid (HOod.out.below hb)
                    obtain ⟨m0, m1, m2, m3, m4⟩ := HX8.out.cells
                    clear hb ho
                    try dsimp only
                    refine hK7.out _ _ (trivial) (fun hHeld => ?_)
                    clear hK7 K7
                    try simp only [Act.put, List.setIfInBounds_toArray, List.set_cons_zero, List.set_cons_succ]
                    refine wpAnyH_take (i := 6) (oi := { dst := some 17, op := Op.fieldAddr 83 (Operand.tmp 1) 3, type := 0, pos := "sheet.go:16", after := #[{ on := 0, ground := Ground.phase }, { on := 1, ground := Ground.phase }, { on := 2, ground := Ground.phase }, { on := 3, ground := Ground.phase }, { on := 4, ground := Ground.phase }, { on := 5, ground := Ground.textOnly Departure.lateStoresUnsure }], guard := none }) (v := ?_) rfl (by kernel_rfl) (by kernel_rfl) (by kernel_rfl) (fun _ _ _ h => h) (Or.inl ⟨by rfl, ?_⟩) hHeld ?_
                    rotate_left 1
                    · intro W hSw
                      (try dsimp only at hSw)
                      go_simp
                      try with_reducible rfl
                    try simp only [Act.put, List.setIfInBounds_toArray, List.set_cons_zero, List.set_cons_succ]
                    refine wpAnyH_ready (rs := [5]) (by kernel_rfl) (by simp) ?_
                    refine AllReadyH.cons (o := { dst := some 16, op := Op.call { callee := Callee.value (Operand.func 126), args := #[Operand.tmp 15], argTypes := #[81] }, type := 81, pos := "sheet.go:16", after := #[{ on := 4, ground := Ground.data }, { on := 2, ground := Ground.chain }], guard := none }) rfl (fun K7 hK7 => ?_) ?_
                    · go_simp
                      refine (HC4.out _ HB8.out).mono ?_
                      rintro e w9 ⟨v9, rfl, ho, hb⟩
                      obtain ⟨a9, c9, rfl⟩ := ho.slice
                      have HB9 := Lib.hid (HB8.out.trans (hb.mono HB8.out.size))
                      have HX9 := Lib.hid (HX8.out.keep hb)
                      have HO9 := Lib.hid (ho.mono (show w.heap.size + 1 ≤ _ from HX8.out.lt))
                      have HOh9 := Lib.hid (HOh8.out.below hb)
                      have HOo9 := Lib.hid (HOo8.out.below hb)
                      have HO89 := Lib.hid (HO8.out.below hb)
                      obtain ⟨j0, j1, j2, j3, j4⟩ := HX9.out.cells
                      have t3 := HX9.out.thaw 3
                      have t4 := HX9.out.thaw 4
                      clear hb ho
                      try dsimp only
                      refine hK7.out _ _ (trivial) (fun hHeld => ?_)
                      clear hK7 K7
                      try simp only [Act.put, List.setIfInBounds_toArray, List.set_cons_zero, List.set_cons_succ]
                      refine wpAnyH_ready (rs := [7]) (by kernel_rfl) (by simp) ?_
                      refine AllReadyH.cons (o := { dst := none, op := Op.store 80 (Operand.tmp 17) (Operand.tmp 13), type := 0, pos := "sheet.go:16", after := #[{ on := 6, ground := Ground.data }, { on := 2, ground := Ground.data }, { on := 5, ground := Ground.chain }, { on := 0, ground := Ground.phase }, { on := 1, ground := Ground.phase }, { on := 2, ground := Ground.phase }, { on := 3, ground := Ground.phase }, { on := 4, ground := Ground.phase }, { on := 5, ground := Ground.textOnly Departure.lateStoresUnsure }], guard := none }) rfl (fun K7 hK7 => ?_) ?_
                      · go_simp
                        refine hK7.out _ _ (trivial) (fun hHeld => ?_)
                        clear hK7 K7
                        try simp only [Act.put, List.setIfInBounds_toArray, List.set_cons_zero, List.set_cons_succ]
                        refine wpAnyH_take (i := 8) (oi := { dst := some 18, op := Op.fieldAddr 83 (Operand.tmp 1) 4, type := 0, pos := "sheet.go:16", after := #[{ on := 0, ground := Ground.phase }, { on := 1, ground := Ground.phase }, { on := 2, ground := Ground.phase }, { on := 3, ground := Ground.phase }, { on := 4, ground := Ground.phase }, { on := 5, ground := Ground.phase }, { on := 6, ground := Ground.phase }, { on := 7, ground := Ground.phase }], guard := none }) (v := ?_) rfl (by kernel_rfl) (by kernel_rfl) (by kernel_rfl) (fun _ _ _ h => h) (Or.inl ⟨by rfl, ?_⟩) hHeld ?_
                        rotate_left 1
                        · intro W hSw
                          (try dsimp only at hSw)
                          go_simp
                          try with_reducible rfl
                        try simp only [Act.put, List.setIfInBounds_toArray, List.set_cons_zero, List.set_cons_succ]
                        refine wpAnyH_ready (rs := [9]) (by kernel_rfl) (by simp) ?_
                        refine AllReadyH.cons (o := { dst := none, op := Op.store 81 (Operand.tmp 18) (Operand.tmp 16), type := 0, pos := "sheet.go:16", after := #[{ on := 8, ground := Ground.data }, { on := 5, ground := Ground.data }, { on := 7, ground := Ground.chain }, { on := 0, ground := Ground.phase }, { on := 1, ground := Ground.phase }, { on := 2, ground := Ground.phase }, { on := 3, ground := Ground.phase }, { on := 4, ground := Ground.phase }, { on := 5, ground := Ground.phase }, { on := 6, ground := Ground.phase }, { on := 7, ground := Ground.phase }], guard := none }) rfl (fun K7 hK7 => ?_) ?_
                        · go_simp
                          refine hK7.out _ _ (trivial) (fun hHeld => ?_)
                          clear hK7 K7
                          try simp only [Act.put, List.setIfInBounds_toArray, List.set_cons_zero, List.set_cons_succ]
                          refine wpAnyH_done (by kernel_rfl) ?_ _
                          have HX10 := Lib.hid (HX9.out.set34 (.slice a8 m.pools.length c8) (.slice a9 m.bans.length c9))
                          have HB10 := Lib.hid ((HB9.out.setCell (p := ⟨w.heap.size, 3, none⟩) (Nat.le_refl _) (.slice a8 m.pools.length c8)).setCell (p := ⟨w.heap.size, 4, none⟩) (Nat.le_refl _) (.slice a9 m.bans.length c9))
                          have HP1 := Lib.hid (HOh9.out.set2 (N := w.heap.size) (Nat.lt_succ_self _) 3 (.slice a8 m.pools.length c8) 4 (.slice a9 m.bans.length c9))
                          have HP2 := Lib.hid (HOo9.out.set2 (N := w.heap.size) (Nat.lt_succ_self _) 3 (.slice a8 m.pools.length c8) 4 (.slice a9 m.bans.length c9))
                          have HP3 := Lib.hid (HO89.out.set2 (N := w.heap.size) (Nat.lt_succ_self _) 3 (.slice a8 m.pools.length c8) 4 (.slice a9 m.bans.length c9))
                          have HP4 := Lib.hid (HO9.out.set2 (N := w.heap.size) (Nat.lt_succ_self _) 3 (.slice a8 m.pools.length c8) 4 (.slice a9 m.bans.length c9))
                          generalize (w9.setCell ⟨w.heap.size, 3, none⟩ (.slice a8 m.pools.length c8)).setCell ⟨w.heap.size, 4, none⟩ (.slice a9 m.bans.length c9) = W10 at HX10 HB10 HP1 HP2 HP3 HP4 ⊢
                          clear HOh9 HOo9 HO89 HO9 HX9 HB9 HX8 HB8 HOh8 HOo8 HO8 j0 j1 j2 j3 j4 m0 m1 m2 m3 m4 l0 l1 l2 l3 l4 t3 t4 HC3 HC4 HX7 HB7 HBd HXd HOhd HOod HOh HOo
                          obtain ⟨l0, l1, l2, l3, l4⟩ := HX10.out.cells
                          have HF := Lib.hid (sheet_new (m := m) HB10.out HP1.out HP2.out HP3.out HP4.out HX10.out.lt)
                          go_wp2
                          go_ret
                          exact ⟨_, rfl, HF.out⟩
                        exact AllReadyH.nil
                      exact AllReadyH.nil
                    exact AllReadyH.nil
                  exact AllReadyH.nil
                exact AllReadyH.nil
              refine AllReadyH.cons (o := { dst := some 15, op := Op.load 81 (Operand.tmp 14), type := 81, pos := "sheet.go:16", after := #[{ on := 3, ground := Ground.data }], guard := none }) rfl (fun K7 hK7 => ?_) ?_
              · go_simp
                refine hK7.out _ _ (trivial) (fun hHeld => ?_)
                clear hK7 K7
                try simp only [Act.put, List.setIfInBounds_toArray, List.set_cons_zero, List.set_cons_succ]
                refine wpAnyH_ready (rs := [1]) (by kernel_rfl) (by simp) ?_
                refine AllReadyH.cons (o := { dst := some 12, op := Op.load 80 (Operand.tmp 11), type := 80, pos := "sheet.go:16", after := #[{ on := 0, ground := Ground.data }], guard := none }) rfl (fun K7 hK7 => ?_) ?_
                · go_simp
                  refine hK7.out _ _ (trivial) (fun hHeld => ?_)
                  clear hK7 K7
                  try simp only [Act.put, List.setIfInBounds_toArray, List.set_cons_zero, List.set_cons_succ]
                  refine wpAnyH_ready (rs := [2]) (by kernel_rfl) (by simp) ?_
                  refine AllReadyH.cons (o := { dst := some 13, op := Op.call { callee := Callee.value (Operand.func 125), args := #[Operand.tmp 12], argTypes := #[80] }, type := 80, pos := "sheet.go:16", after := #[{ on := 1, ground := Ground.data }], guard := none }) rfl (fun K7 hK7 => ?_) ?_
                  · go_simp
                    refine (HC3.out _ HBd.out).mono ?_
                    rintro e w8 ⟨v8, rfl, ho, hb⟩
                    obtain ⟨a8, c8, rfl⟩ := ho.slice
                    have HB8 := Lib.hid (HBd.out.trans (hb.mono HBd.out.size))
                    have HX8 := Lib.hid (HXd.out.keep hb)
                    have HO8 := Lib.hid (ho.mono (show w.heap.size + 1 ≤ _ from HXd.out.lt))
                    have HOh8 := Lib.hid (HOhd.out.below hb)
                    have HOo8 := Lib.hid (HOod.out.below hb)
                    obtain ⟨m0, m1, m2, m3, m4⟩ := HX8.out.cells
                    clear hb ho
                    try dsimp only
                    refine hK7.out _ _ (trivial) (fun hHeld => ?_)
                    clear hK7 K7
                    try simp only [Act.put, List.setIfInBounds_toArray, List.set_cons_zero, List.set_cons_succ]
                    refine wpAnyH_take (i := 6) (oi := { dst := some 17, op := Op.fieldAddr 83 (Operand.tmp 1) 3, type := 0, pos := "sheet.go:16", after := #[{ on := 0, ground := Ground.phase }, { on := 1, ground := Ground.phase }, { on := 2, ground := Ground.phase }, { on := 3, ground := Ground.phase }, { on := 4, ground := Ground.phase }, { on := 5, ground := Ground.textOnly Departure.lateStoresUnsure }], guard := none }) (v := ?_) rfl (by kernel_rfl) (by kernel_rfl) (by kernel_rfl) (fun _ _ _ h => h) (Or.inl ⟨by rfl, ?_⟩) hHeld ?_
                    rotate_left 1
                    · intro W hSw
                      (try dsimp only at hSw)
                      go_simp
                      try with_reducible rfl
                    try simp only [Act.put, List.setIfInBounds_toArray, List.set_cons_zero, List.set_cons_succ]
                    refine wpAnyH_ready (rs := [5]) (by kernel_rfl) (by simp) ?_
                    refine AllReadyH.cons (o := { dst := some 16, op := Op.call { callee := Callee.value (Operand.func 126), args := #[Operand.tmp 15], argTypes := #[81] }, type := 81, pos := "sheet.go:16", after := #[{ on := 4, ground := Ground.data }, { on := 2, ground := Ground.chain }], guard := none }) rfl (fun K7 hK7 => ?_) ?_
                    · go_simp
                      refine (HC4.out _ HB8.out).mono ?_
                      rintro e w9 ⟨v9, rfl, ho, hb⟩
                      obtain ⟨a9, c9, rfl⟩ := ho.slice
                      have HB9 := Lib.hid (HB8.out.trans (hb.mono HB8.out.size))
                      have HX9 := Lib.hid (HX8.out.keep hb)
                      have HO9 := Lib.hid (ho.mono (show w.heap.size + 1 ≤ _ from HX8.out.lt))
                      have HOh9 := Lib.hid (HOh8.out.below hb)
                      have HOo9 := Lib.hid (HOo8.out.below hb)
                      have HO89 := Lib.hid (HO8.out.below hb)
                      obtain ⟨j0, j1, j2, j3, j4⟩ := HX9.out.cells
                      have t3 := HX9.out.thaw 3
                      have t4 := HX9.out.thaw 4
                      clear hb ho
                      try dsimp only
                      refine hK7.out _ _ (trivial) (fun hHeld => ?_)
                      clear hK7 K7
                      try simp only [Act.put, List.setIfInBounds_toArray, List.set_cons_zero, List.set_cons_succ]
                      refine wpAnyH_ready (rs := [7]) (by kernel_rfl) (by simp) ?_
                      refine AllReadyH.cons (o := { dst := none, op := Op.store 80 (Operand.tmp 17) (Operand.tmp 13), type := 0, pos := "sheet.go:16", after := #[{ on := 6, ground := Ground.data }, { on := 2, ground := Ground.data }, { on := 5, ground := Ground.chain }, { on := 0, ground := Ground.phase }, { on := 1, ground := Ground.phase }, { on := 2, ground := Ground.phase }, { on := 3, ground := Ground.phase }, { on := 4, ground := Ground.phase }, { on := 5, ground := Ground.textOnly Departure.lateStoresUnsure }], guard := none }) rfl (fun K7 hK7 => ?_) ?_
                      · go_simp
                        refine hK7.out _ _ (trivial) (fun hHeld => ?_)
                        clear hK7 K7
                        try simp only [Act.put, List.setIfInBounds_toArray, List.set_cons_zero, List.set_cons_succ]
                        refine wpAnyH_take (i := 8) (oi := { dst := some 18, op := Op.fieldAddr 83 (Operand.tmp 1) 4, type := 0, pos := "sheet.go:16", after := #[{ on := 0, ground := Ground.phase }, { on := 1, ground := Ground.phase }, { on := 2, ground := Ground.phase }, { on := 3, ground := Ground.phase }, { on := 4, ground := Ground.phase }, { on := 5, ground := Ground.phase }, { on := 6, ground := Ground.phase }, { on := 7, ground := Ground.phase }], guard := none }) (v := ?_) rfl (by kernel_rfl) (by kernel_rfl) (by kernel_rfl) (fun _ _ _ h => h) (Or.inl ⟨by rfl, ?_⟩) hHeld ?_
                        rotate_left 1
                        · intro W hSw
                          (try dsimp only at hSw)
                          go_simp
                          try with_reducible rfl
                        try simp only [Act.put, List.setIfInBounds_toArray, List.set_cons_zero, List.set_cons_succ]
                        refine wpAnyH_ready (rs := [9]) (by kernel_rfl) (by simp) ?_
                        refine AllReadyH.cons (o := { dst := none, op := Op.store 81 (Operand.tmp 18) (Operand.tmp 16), type := 0, pos := "sheet.go:16", after := #[{ on := 8, ground := Ground.data }, { on := 5, ground := Ground.data }, { on := 7, ground := Ground.chain }, { on := 0, ground := Ground.phase }, { on := 1, ground := Ground.phase }, { on := 2, ground := Ground.phase }, { on := 3, ground := Ground.phase }, { on := 4, ground := Ground.phase }, { on := 5, ground := Ground.phase }, { on := 6, ground := Ground.phase }, { on := 7, ground := Ground.phase }], guard := none }) rfl (fun K7 hK7 => ?_) ?_
                        · go_simp
                          refine hK7.out _ _ (trivial) (fun hHeld => ?_)
                          clear hK7 K7
                          try simp only [Act.put, List.setIfInBounds_toArray, List.set_cons_zero, List.set_cons_succ]
                          refine wpAnyH_done (by kernel_rfl) ?_ _
                          have HX10 := Lib.hid (HX9.out.set34 (.slice a8 m.pools.length c8) (.slice a9 m.bans.length c9))
                          have HB10 := Lib.hid ((HB9.out.setCell (p := ⟨w.heap.size, 3, none⟩) (Nat.le_refl _) (.slice a8 m.pools.length c8)).setCell (p := ⟨w.heap.size, 4, none⟩) (Nat.le_refl _) (.slice a9 m.bans.length c9))
                          have HP1 := Lib.hid (HOh9.out.set2 (N := w.heap.size) (Nat.lt_succ_self _) 3 (.slice a8 m.pools.length c8) 4 (.slice a9 m.bans.length c9))
                          have HP2 := Lib.hid (HOo9.out.set2 (N := w.heap.size) (Nat.lt_succ_self _) 3 (.slice a8 m.pools.length c8) 4 (.slice a9 m.bans.length c9))
                          have HP3 := Lib.hid (HO89.out.set2 (N := w.heap.size) (Nat.lt_succ_self _) 3 (.slice a8 m.pools.length c8) 4 (.slice a9 m.bans.length c9))
                          have HP4 := Lib.hid (HO9.out.set2 (N := w.heap.size) (Nat.lt_succ_self _) 3 (.slice a8 m.pools.length c8) 4 (.slice a9 m.bans.length c9))
                          generalize (w9.setCell ⟨w.heap.size, 3, none⟩ (.slice a8 m.pools.length c8)).setCell ⟨w.heap.size, 4, none⟩ (.slice a9 m.bans.length c9) = W10 at HX10 HB10 HP1 HP2 HP3 HP4 ⊢
                          clear HOh9 HOo9 HO89 HO9 HX9 HB9 HX8 HB8 HOh8 HOo8 HO8 j0 j1 j2 j3 j4 m0 m1 m2 m3 m4 l0 l1 l2 l3 l4 t3 t4 HC3 HC4 HX7 HB7 HBd HXd HOhd HOod HOh HOo
                          obtain ⟨l0, l1, l2, l3, l4⟩ := HX10.out.cells
                          have HF := Lib.hid (sheet_new (m := m) HB10.out HP1.out HP2.out HP3.out HP4.out HX10.out.lt)
                          go_wp2
                          go_ret
                          exact ⟨_, rfl, HF.out⟩
                        exact AllReadyH.nil
                      exact AllReadyH.nil
                    exact AllReadyH.nil
                  exact AllReadyH.nil
                exact AllReadyH.nil
              exact AllReadyH.nil
            exact AllReadyH.nil
          exact AllReadyH.nil
        exact AllReadyH.nil
      exact AllReadyH.nil
    exact AllReadyH.nil
  refine AllReadyH.cons (o := { dst := some 7, op := Op.load 79 (Operand.tmp 6), type := 79, pos := "sheet.go:15", after := #[{ on := 3, ground := Ground.data }], guard := none }) rfl (fun K7 hK7 => ?_) ?_
  · go_simp
    refine hK7.out _ _ (trivial) (fun hHeld => ?_)
    clear hK7 K7
    try simp only [Act.put, List.setIfInBounds_toArray, List.set_cons_zero, List.set_cons_succ]
    refine wpAnyH_ready (rs := [1]) (by kernel_rfl) (by simp) ?_
    refine AllReadyH.cons (o := { dst := some 4, op := Op.load 25 (Operand.tmp 3), type := 25, pos := "sheet.go:15", after := #[{ on := 0, ground := Ground.data }], guard := none }) rfl (fun K7 hK7 => ?_) ?_
    · go_simp
      refine hK7.out _ _ (trivial) (fun hHeld => ?_)
      clear hK7 K7
      try simp only [Act.put, List.setIfInBounds_toArray, List.set_cons_zero, List.set_cons_succ]
      refine wpAnyH_ready (rs := [2]) (by kernel_rfl) (by simp) ?_
      refine AllReadyH.cons (o := { dst := some 5, op := Op.call { callee := Callee.value (Operand.func 97), args := #[Operand.tmp 4], argTypes := #[25] }, type := 25, pos := "sheet.go:15", after := #[{ on := 1, ground := Ground.data }], guard := none }) rfl (fun K7 hK7 => ?_) ?_
      · go_simp
        refine (HC1.out _ HBd.out).mono ?_
        rintro e w5 ⟨v5, rfl, ho, hb⟩
        obtain ⟨a5, c5, rfl⟩ := ho.slice
        have HB5 := Lib.hid (HBd.out.trans (hb.mono HBd.out.size))
        have HX5 := Lib.hid (HXd.out.keep hb)
        have HO5 := Lib.hid (ho.mono (show w.heap.size + 1 ≤ _ from HXd.out.lt))
        obtain ⟨m0, m1, m2, m3, m4⟩ := HX5.out.cells
        clear hb ho
        try dsimp only
        refine hK7.out _ _ (trivial) (fun hHeld => ?_)
        clear hK7 K7
        try simp only [Act.put, List.setIfInBounds_toArray, List.set_cons_zero, List.set_cons_succ]
        refine wpAnyH_take (i := 6) (oi := { dst := some 9, op := Op.fieldAddr 83 (Operand.tmp 1) 1, type := 0, pos := "sheet.go:15", after := #[{ on := 0, ground := Ground.phase }, { on := 1, ground := Ground.phase }, { on := 2, ground := Ground.phase }, { on := 3, ground := Ground.phase }, { on := 4, ground := Ground.phase }, { on := 5, ground := Ground.textOnly Departure.lateStoresUnsure }], guard := none }) (v := ?_) rfl (by kernel_rfl) (by kernel_rfl) (by kernel_rfl) (fun _ _ _ h => h) (Or.inl ⟨by rfl, ?_⟩) hHeld ?_
        rotate_left 1
        · intro W hSw
          (try dsimp only at hSw)
          go_simp
          try with_reducible rfl
        try simp only [Act.put, List.setIfInBounds_toArray, List.set_cons_zero, List.set_cons_succ]
        refine wpAnyH_ready (rs := [5]) (by kernel_rfl) (by simp) ?_
        refine AllReadyH.cons (o := { dst := some 8, op := Op.call { callee := Callee.value (Operand.func 124), args := #[Operand.tmp 7], argTypes := #[79] }, type := 79, pos := "sheet.go:15", after := #[{ on := 4, ground := Ground.data }, { on := 2, ground := Ground.chain }], guard := none }) rfl (fun K7 hK7 => ?_) ?_
        · go_simp
          refine (HC2.out _ HB5.out).mono ?_
          rintro e w6 ⟨v6, rfl, ho, hb⟩
          obtain ⟨a6, c6, rfl⟩ := ho.slice
          have HB6 := Lib.hid (HB5.out.trans (hb.mono HB5.out.size))
          have HX6 := Lib.hid (HX5.out.keep hb)
          have HO6 := Lib.hid (ho.mono (show w.heap.size + 1 ≤ _ from HX5.out.lt))
          have HO56 := Lib.hid (HO5.out.below hb)
          obtain ⟨j0, j1, j2, j3, j4⟩ := HX6.out.cells
          have t1 := HX6.out.thaw 1
          have t2 := HX6.out.thaw 2
          clear hb ho
          try dsimp only
          refine hK7.out _ _ (trivial) (fun hHeld => ?_)
          clear hK7 K7
          try simp only [Act.put, List.setIfInBounds_toArray, List.set_cons_zero, List.set_cons_succ]
          refine wpAnyH_ready (rs := [7]) (by kernel_rfl) (by simp) ?_
          refine AllReadyH.cons (o := { dst := none, op := Op.store 25 (Operand.tmp 9) (Operand.tmp 5), type := 0, pos := "sheet.go:15", after := #[{ on := 6, ground := Ground.data }, { on := 2, ground := Ground.data }, { on := 5, ground := Ground.chain }, { on := 0, ground := Ground.phase }, { on := 1, ground := Ground.phase }, { on := 2, ground := Ground.phase }, { on := 3, ground := Ground.phase }, { on := 4, ground := Ground.phase }, { on := 5, ground := Ground.textOnly Departure.lateStoresUnsure }], guard := none }) rfl (fun K7 hK7 => ?_) ?_
          · go_simp
            refine hK7.out _ _ (trivial) (fun hHeld => ?_)
            clear hK7 K7
            try simp only [Act.put, List.setIfInBounds_toArray, List.set_cons_zero, List.set_cons_succ]
            refine wpAnyH_take (i := 8) (oi := { dst := some 10, op := Op.fieldAddr 83 (Operand.tmp 1) 2, type := 0, pos := "sheet.go:15", after := #[{ on := 0, ground := Ground.phase }, { on := 1, ground := Ground.phase }, { on := 2, ground := Ground.phase }, { on := 3, ground := Ground.phase }, { on := 4, ground := Ground.phase }, { on := 5, ground := Ground.phase }, { on := 6, ground := Ground.phase }, { on := 7, ground := Ground.phase }], guard := none }) (v := ?_) rfl (by kernel_rfl) (by kernel_rfl) (by kernel_rfl) (fun _ _ _ h => h) (Or.inl ⟨by rfl, ?_⟩) hHeld ?_
            rotate_left 1
            · intro W hSw
              (try dsimp only at hSw)
              go_simp
              try with_reducible rfl
            try simp only [Act.put, List.setIfInBounds_toArray, List.set_cons_zero, List.set_cons_succ]
            refine wpAnyH_ready (rs := [9]) (by kernel_rfl) (by simp) ?_
            refine AllReadyH.cons (o := { dst := none, op := Op.store 79 (Operand.tmp 10) (Operand.tmp 8), type := 0, pos := "sheet.go:15", after := #[{ on := 8, ground := Ground.data }, { on := 5, ground := Ground.data }, { on := 7, ground := Ground.chain }, { on := 0, ground := Ground.phase }, { on := 1, ground := Ground.phase }, { on := 2, ground := Ground.phase }, { on := 3, ground := Ground.phase }, { on := 4, ground := Ground.phase }, { on := 5, ground := Ground.phase }, { on := 6, ground := Ground.phase }, { on := 7, ground := Ground.phase }], guard := none }) rfl (fun K7 hK7 => ?_) ?_
            · go_simp
              refine hK7.out _ _ (trivial) (fun hHeld => ?_)
              clear hK7 K7
              try simp only [Act.put, List.setIfInBounds_toArray, List.set_cons_zero, List.set_cons_succ]
              refine wpAnyH_done (by kernel_rfl) ?_ _
              have HX7 := Lib.hid (HX6.out.set12 (.slice a5 m.hosts.length c5) (.slice a6 m.osds.length c6))
              have HB7 := Lib.hid ((HB6.out.setCell (p := ⟨w.heap.size, 1, none⟩) (Nat.le_refl _) (.slice a5 m.hosts.length c5)).setCell (p := ⟨w.heap.size, 2, none⟩) (Nat.le_refl _) (.slice a6 m.osds.length c6))
              have HOh := Lib.hid (HO56.out.set2 (N := w.heap.size) (Nat.lt_succ_self _) 1 (.slice a5 m.hosts.length c5) 2 (.slice a6 m.osds.length c6))
              have HOo := Lib.hid (HO6.out.set2 (N := w.heap.size) (Nat.lt_succ_self _) 1 (.slice a5 m.hosts.length c5) 2 (.slice a6 m.osds.length c6))
              generalize (w6.setCell ⟨w.heap.size, 1, none⟩ (.slice a5 m.hosts.length c5)).setCell ⟨w.heap.size, 2, none⟩ (.slice a6 m.osds.length c6) = W7 at HX7 HB7 HOh HOo ⊢
              clear HO56 HO6 HO5 HX6 HB6 HX5 HB5 j0 j1 j2 j3 j4 m0 m1 m2 m3 m4 l0 l1 l2 l3 l4 t1 t2 HC1 HC2 HX HB HBd HXd
              go_upto_region 2 with fail
              have HBd := Lib.hid (below_drew HB7.out)
              have HXd := Lib.hid (show MBox W7.drew w.heap.size 83 m.epoch (.slice a5 m.hosts.length c5) (.slice a6 m.osds.length c6) (.slice ap Lp cp) (.slice ab Lb cb) from HX7.out)
              have HOhd := Lib.hid (show Own ic 1 3 W7.drew (w.heap.size + 1) (.slice a5 m.hosts.length c5) m.hosts from HOh.out)
              have HOod := Lib.hid (show Own oc 4 132 W7.drew (w.heap.size + 1) (.slice a6 m.osds.length c6) m.osds from HOo.out)
              obtain ⟨l0, l1, l2, l3, l4⟩ := HXd.out.cells
              refine wp_region_held_drew (S := fun _ => True) (by kernel_rfl) (trivial) (fun hHeld => ?_)
              refine wpAnyH_take (i := 0) (oi := { dst := some 11, op := Op.fieldAddr 83 (Operand.tmp 1) 3, type := 0, pos := "sheet.go:16", after := #[], guard := none }) (v := ?_) rfl (by kernel_rfl) (by kernel_rfl) (by kernel_rfl) (fun _ _ _ h => h) (Or.inl ⟨by rfl, ?_⟩) hHeld ?_
              rotate_left 1
              · intro W hSw
                (try dsimp only at hSw)
                go_simp
                try with_reducible rfl
              try simp only [Act.put, List.setIfInBounds_toArray, List.set_cons_zero, List.set_cons_succ]
              refine wpAnyH_take (i := 3) (oi := { dst := some 14, op := Op.fieldAddr 83 (Operand.tmp 1) 4, type := 0, pos := "sheet.go:16", after := #[], guard := none }) (v := ?_) rfl (by kernel_rfl) (by kernel_rfl) (by kernel_rfl) (fun _ _ _ h => h) (Or.inl ⟨by rfl, ?_⟩) hHeld ?_
              rotate_left 1
              · intro W hSw
                (try dsimp only at hSw)
                go_simp
                try with_reducible rfl
              try simp only [Act.put, List.setIfInBounds_toArray, List.set_cons_zero, List.set_cons_succ]
              refine wpAnyH_ready (rs := [1, 4]) (by kernel_rfl) (by simp) ?_
              refine AllReadyH.cons (o := { dst := some 12, op := Op.load 80 (Operand.tmp 11), type := 80, pos := "sheet.go:16", after := #[{ on := 0, ground := Ground.data }], guard := none }) rfl (fun K7 hK7 => ?_) ?_
              · go_simp
                refine hK7.out _ _ (trivial) (fun hHeld => ?_)
                clear hK7 K7
                try simp only [Act.put, List.setIfInBounds_toArray, List.set_cons_zero, List.set_cons_succ]
                refine wpAnyH_ready (rs := [2, 4]) (by kernel_rfl) (by simp) ?_
                refine AllReadyH.cons (o := { dst := some 13, op := Op.call { callee := Callee.value (Operand.func 125), args := #[Operand.tmp 12], argTypes := #[80] }, type := 80, pos := "sheet.go:16", after := #[{ on := 1, ground := Ground.data }], guard := none }) rfl (fun K7 hK7 => ?_) ?_
                · go_simp
                  refine (HC3.out _ HBd.out).mono ?_
                  rintro e w8 ⟨v8, rfl, ho, hb⟩
                  obtain ⟨a8, c8, rfl⟩ := ho.slice
                  have HB8 := Lib.hid (HBd.out.trans (hb.mono HBd.out.size))
                  have HX8 := Lib.hid (HXd.out.keep hb)
                  have HO8 := Lib.hid (ho.mono (show w.heap.size + 1 ≤ _ from HXd.out.lt))
                  have HOh8 := Lib.hid (HOhd.out.below hb)
                  have HOo8 := Lib.hid (HOod.out.below hb)
                  obtain ⟨m0, m1, m2, m3, m4⟩ := HX8.out.cells
                  clear hb ho
                  try dsimp only
                  refine hK7.out _ _ (trivial) (fun hHeld => ?_)
                  clear hK7 K7
                  try simp only [Act.put, List.setIfInBounds_toArray, List.set_cons_zero, List.set_cons_succ]
                  refine wpAnyH_ready (rs := [4]) (by kernel_rfl) (by simp) ?_
                  refine AllReadyH.cons (o := { dst := some 15, op := Op.load 81 (Operand.tmp 14), type := 81, pos := "sheet.go:16", after := #[{ on := 3, ground := Ground.data }], guard := none }) rfl (fun K7 hK7 => ?_) ?_
                  · go_simp
                    refine hK7.out _ _ (trivial) (fun hHeld => ?_)
                    clear hK7 K7
                    try simp only [Act.put, List.setIfInBounds_toArray, List.set_cons_zero, List.set_cons_succ]
                    refine wpAnyH_take (i := 6) (oi := { dst := some 17, op := Op.fieldAddr 83 (Operand.tmp 1) 3, type := 0, pos := "sheet.go:16", after := #[{ on := 0, ground := Ground.phase }, { on := 1, ground := Ground.phase }, { on := 2, ground := Ground.phase }, { on := 3, ground := Ground.phase }, { on := 4, ground := Ground.phase }, { on := 5, ground := Ground.textOnly Departure.lateStoresUnsure }], guard := none }) (v := ?_) rfl (by kernel_rfl) (by kernel_rfl) (by kernel_rfl) (fun _ _ _ h => h) (Or.inl ⟨by rfl, ?_⟩) hHeld ?_
                    rotate_left 1
                    · intro W hSw
                      (try dsimp only at hSw)
                      go_simp
                      try with_reducible rfl
                    try simp only [Act.put, List.setIfInBounds_toArray, List.set_cons_zero, List.set_cons_succ]
                    refine wpAnyH_ready (rs := [5]) (by kernel_rfl) (by simp) ?_
                    refine AllReadyH.cons (o := { dst := some 16, op := Op.call { callee := Callee.value (Operand.func 126), args := #[Operand.tmp 15], argTypes := #[81] }, type := 81, pos := "sheet.go:16", after := #[{ on := 4, ground := Ground.data }, { on := 2, ground := Ground.chain }], guard := none }) rfl (fun K7 hK7 => ?_) ?_
                    · go_simp
                      refine (HC4.out _ HB8.out).mono ?_
                      rintro e w9 ⟨v9, rfl, ho, hb⟩
                      obtain ⟨a9, c9, rfl⟩ := ho.slice
                      have HB9 := Lib.hid (HB8.out.trans (hb.mono HB8.out.size))
                      have HX9 := Lib.hid (HX8.out.keep hb)
                      have HO9 := Lib.hid (ho.mono (show w.heap.size + 1 ≤ _ from HX8.out.lt))
                      have HOh9 := Lib.hid (HOh8.out.below hb)
                      have HOo9 := Lib.hid (HOo8.out.below hb)
                      have HO89 := Lib.hid (HO8.out.below hb)
                      obtain ⟨j0, j1, j2, j3, j4⟩ := HX9.out.cells
                      have t3 := HX9.out.thaw 3
                      have t4 := HX9.out.thaw 4
                      clear hb ho
                      try dsimp only
                      refine hK7.out _ _ (trivial) (fun hHeld => ?_)
                      clear hK7 K7
                      try simp only [Act.put, List.setIfInBounds_toArray, List.set_cons_zero, List.set_cons_succ]
                      refine wpAnyH_ready (rs := [7]) (by kernel_rfl) (by simp) ?_
                      refine AllReadyH.cons (o := { dst := none, op := Op.store 80 (Operand.tmp 17) (Operand.tmp 13), type := 0, pos := "sheet.go:16", after := #[{ on := 6, ground := Ground.data }, { on := 2, ground := Ground.data }, { on := 5, ground := Ground.chain }, { on := 0, ground := Ground.phase }, { on := 1, ground := Ground.phase }, { on := 2, ground := Ground.phase }, { on := 3, ground := Ground.phase }, { on := 4, ground := Ground.phase }, { on := 5, ground := Ground.textOnly Departure.lateStoresUnsure }], guard := none }) rfl (fun K7 hK7 => ?_) ?_
                      · go_simp
                        refine hK7.out _ _ (trivial) (fun hHeld => ?_)
                        clear hK7 K7
                        try simp only [Act.put, List.setIfInBounds_toArray, List.set_cons_zero, List.set_cons_succ]
                        refine wpAnyH_take (i := 8) (oi := { dst := some 18, op := Op.fieldAddr 83 (Operand.tmp 1) 4, type := 0, pos := "sheet.go:16", after := #[{ on := 0, ground := Ground.phase }, { on := 1, ground := Ground.phase }, { on := 2, ground := Ground.phase }, { on := 3, ground := Ground.phase }, { on := 4, ground := Ground.phase }, { on := 5, ground := Ground.phase }, { on := 6, ground := Ground.phase }, { on := 7, ground := Ground.phase }], guard := none }) (v := ?_) rfl (by kernel_rfl) (by kernel_rfl) (by kernel_rfl) (fun _ _ _ h => h) (Or.inl ⟨by rfl, ?_⟩) hHeld ?_
                        rotate_left 1
                        · intro W hSw
                          (try dsimp only at hSw)
                          go_simp
                          try with_reducible rfl
                        try simp only [Act.put, List.setIfInBounds_toArray, List.set_cons_zero, List.set_cons_succ]
                        refine wpAnyH_ready (rs := [9]) (by kernel_rfl) (by simp) ?_
                        refine AllReadyH.cons (o := { dst := none, op := Op.store 81 (Operand.tmp 18) (Operand.tmp 16), type := 0, pos := "sheet.go:16", after := #[{ on := 8, ground := Ground.data }, { on := 5, ground := Ground.data }, { on := 7, ground := Ground.chain }, { on := 0, ground := Ground.phase }, { on := 1, ground := Ground.phase }, { on := 2, ground := Ground.phase }, { on := 3, ground := Ground.phase }, { on := 4, ground := Ground.phase }, { on := 5, ground := Ground.phase }, { on := 6, ground := Ground.phase }, { on := 7, ground := Ground.phase }], guard := none }) rfl (fun K7 hK7 => ?_) ?_
                        · go_simp
                          refine hK7.out _ _ (trivial) (fun hHeld => ?_)
                          clear hK7 K7
                          try simp only [Act.put, List.setIfInBounds_toArray, List.set_cons_zero, List.set_cons_succ]
                          refine wpAnyH_done (by kernel_rfl) ?_ _
                          have HX10 := Lib.hid (HX9.out.set34 (.slice a8 m.pools.length c8) (.slice a9 m.bans.length c9))
                          have HB10 := Lib.hid ((HB9.out.setCell (p := ⟨w.heap.size, 3, none⟩) (Nat.le_refl _) (.slice a8 m.pools.length c8)).setCell (p := ⟨w.heap.size, 4, none⟩) (Nat.le_refl _) (.slice a9 m.bans.length c9))
                          have HP1 := Lib.hid (HOh9.out.set2 (N := w.heap.size) (Nat.lt_succ_self _) 3 (.slice a8 m.pools.length c8) 4 (.slice a9 m.bans.length c9))
                          have HP2 := Lib.hid (HOo9.out.set2 (N := w.heap.size) (Nat.lt_succ_self _) 3 (.slice a8 m.pools.length c8) 4 (.slice a9 m.bans.length c9))
                          have HP3 := Lib.hid (HO89.out.set2 (N := w.heap.size) (Nat.lt_succ_self _) 3 (.slice a8 m.pools.length c8) 4 (.slice a9 m.bans.length c9))
                          have HP4 := Lib.hid (HO9.out.set2 (N := w.heap.size) (Nat.lt_succ_self _) 3 (.slice a8 m.pools.length c8) 4 (.slice a9 m.bans.length c9))
                          generalize (w9.setCell ⟨w.heap.size, 3, none⟩ (.slice a8 m.pools.length c8)).setCell ⟨w.heap.size, 4, none⟩ (.slice a9 m.bans.length c9) = W10 at HX10 HB10 HP1 HP2 HP3 HP4 ⊢
                          clear HOh9 HOo9 HO89 HO9 HX9 HB9 HX8 HB8 HOh8 HOo8 HO8 j0 j1 j2 j3 j4 m0 m1 m2 m3 m4 l0 l1 l2 l3 l4 t3 t4 HC3 HC4 HX7 HB7 HBd HXd HOhd HOod HOh HOo
                          obtain ⟨l0, l1, l2, l3, l4⟩ := HX10.out.cells
                          have HF := Lib.hid (sheet_new (m := m) HB10.out HP1.out HP2.out HP3.out HP4.out HX10.out.lt)
                          go_wp2
                          go_ret
                          exact ⟨_, rfl, HF.out⟩
                        exact AllReadyH.nil
                      exact AllReadyH.nil
                    exact AllReadyH.nil
                  exact AllReadyH.nil
                refine AllReadyH.cons (o := { dst := some 15, op := Op.load 81 (Operand.tmp 14), type := 81, pos := "sheet.go:16", after := #[{ on := 3, ground := Ground.data }], guard := none }) rfl (fun K7 hK7 => ?_) ?_
                · go_simp
                  refine hK7.out _ _ (trivial) (fun hHeld => ?_)
                  clear hK7 K7
                  try simp only [Act.put, List.setIfInBounds_toArray, List.set_cons_zero, List.set_cons_succ]
                  refine wpAnyH_ready (rs := [2]) (by kernel_rfl) (by simp) ?_
                  refine AllReadyH.cons (o := { dst := some 13, op := Op.call { callee := Callee.value (Operand.func 125), args := #[Operand.tmp 12], argTypes := #[80] }, type := 80, pos := "sheet.go:16", after := #[{ on := 1, ground := Ground.data }], guard := none }) rfl (fun K7 hK7 => ?_) ?_
                  · go_simp
                    refine (HC3.out _ HBd.out).mono ?_
                    rintro e w8 ⟨v8, rfl, ho, hb⟩
                    obtain ⟨a8, c8, rfl⟩ := ho.slice
                    have HB8 := Lib.hid (HBd.out.trans (hb.mono HBd.out.size))
                    have HX8 := Lib.hid (HXd.out.keep hb)
                    have HO8 := Lib.hid (ho.mono (show w.heap.size + 1 ≤ _ from HXd.out.lt))
                    have HOh8 := Lib.hid (HOhd.out.below hb)
                    have HOo8 := Lib.hid (HOod.out.below hb)
                    obtain ⟨m0, m1, m2, m3, m4⟩ := HX8.out.cells
                    clear hb ho
                    try dsimp only
                    refine hK7.out _ _ (trivial) (fun hHeld => ?_)
                    clear hK7 K7
                    try simp only [Act.put, List.setIfInBounds_toArray, List.set_cons_zero, List.set_cons_succ]
                    refine wpAnyH_take (i := 6) (oi := { dst := some 17, op := Op.fieldAddr 83 (Operand.tmp 1) 3, type := 0, pos := "sheet.go:16", after := #[{ on := 0, ground := Ground.phase }, { on := 1, ground := Ground.phase }, { on := 2, ground := Ground.phase }, { on := 3, ground := Ground.phase }, { on := 4, ground := Ground.phase }, { on := 5, ground := Ground.textOnly Departure.lateStoresUnsure }], guard := none }) (v := ?_) rfl (by kernel_rfl) (by kernel_rfl) (by kernel_rfl) (fun _ _ _ h => h) (Or.inl ⟨by rfl, ?_⟩) hHeld ?_
                    rotate_left 1
                    · intro W hSw
                      (try dsimp only at hSw)
                      go_simp
                      try with_reducible rfl
                    try simp only [Act.put, List.setIfInBounds_toArray, List.set_cons_zero, List.set_cons_succ]
                    refine wpAnyH_ready (rs := [5]) (by kernel_rfl) (by simp) ?_
                    refine AllReadyH.cons (o := { dst := some 16, op := Op.call { callee := Callee.value (Operand.func 126), args := #[Operand.tmp 15], argTypes := #[81] }, type := 81, pos := "sheet.go:16", after := #[{ on := 4, ground := Ground.data }, { on := 2, ground := Ground.chain }], guard := none }) rfl (fun K7 hK7 => ?_) ?_
                    · go_simp
                      refine (HC4.out _ HB8.out).mono ?_
                      rintro e w9 ⟨v9, rfl, ho, hb⟩
                      obtain ⟨a9, c9, rfl⟩ := ho.slice
                      have HB9 := Lib.hid (HB8.out.trans (hb.mono HB8.out.size))
                      have HX9 := Lib.hid (HX8.out.keep hb)
                      have HO9 := Lib.hid (ho.mono (show w.heap.size + 1 ≤ _ from HX8.out.lt))
                      have HOh9 := Lib.hid (HOh8.out.below hb)
                      have HOo9 := Lib.hid (HOo8.out.below hb)
                      have HO89 := Lib.hid (HO8.out.below hb)
                      obtain ⟨j0, j1, j2, j3, j4⟩ := HX9.out.cells
                      have t3 := HX9.out.thaw 3
                      have t4 := HX9.out.thaw 4
                      clear hb ho
                      try dsimp only
                      refine hK7.out _ _ (trivial) (fun hHeld => ?_)
                      clear hK7 K7
                      try simp only [Act.put, List.setIfInBounds_toArray, List.set_cons_zero, List.set_cons_succ]
                      refine wpAnyH_ready (rs := [7]) (by kernel_rfl) (by simp) ?_
                      refine AllReadyH.cons (o := { dst := none, op := Op.store 80 (Operand.tmp 17) (Operand.tmp 13), type := 0, pos := "sheet.go:16", after := #[{ on := 6, ground := Ground.data }, { on := 2, ground := Ground.data }, { on := 5, ground := Ground.chain }, { on := 0, ground := Ground.phase }, { on := 1, ground := Ground.phase }, { on := 2, ground := Ground.phase }, { on := 3, ground := Ground.phase }, { on := 4, ground := Ground.phase }, { on := 5, ground := Ground.textOnly Departure.lateStoresUnsure }], guard := none }) rfl (fun K7 hK7 => ?_) ?_
                      · go_simp
                        refine hK7.out _ _ (trivial) (fun hHeld => ?_)
                        clear hK7 K7
                        try simp only [Act.put, List.setIfInBounds_toArray, List.set_cons_zero, List.set_cons_succ]
                        refine wpAnyH_take (i := 8) (oi := { dst := some 18, op := Op.fieldAddr 83 (Operand.tmp 1) 4, type := 0, pos := "sheet.go:16", after := #[{ on := 0, ground := Ground.phase }, { on := 1, ground := Ground.phase }, { on := 2, ground := Ground.phase }, { on := 3, ground := Ground.phase }, { on := 4, ground := Ground.phase }, { on := 5, ground := Ground.phase }, { on := 6, ground := Ground.phase }, { on := 7, ground := Ground.phase }], guard := none }) (v := ?_) rfl (by kernel_rfl) (by kernel_rfl) (by kernel_rfl) (fun _ _ _ h => h) (Or.inl ⟨by rfl, ?_⟩) hHeld ?_
                        rotate_left 1
                        · intro W hSw
                          (try dsimp only at hSw)
                          go_simp
                          try with_reducible rfl
                        try simp only [Act.put, List.setIfInBounds_toArray, List.set_cons_zero, List.set_cons_succ]
                        refine wpAnyH_ready (rs := [9]) (by kernel_rfl) (by simp) ?_
                        refine AllReadyH.cons (o := { dst := none, op := Op.store 81 (Operand.tmp 18) (Operand.tmp 16), type := 0, pos := "sheet.go:16", after := #[{ on := 8, ground := Ground.data }, { on := 5, ground := Ground.data }, { on := 7, ground := Ground.chain }, { on := 0, ground := Ground.phase }, { on := 1, ground := Ground.phase }, { on := 2, ground := Ground.phase }, { on := 3, ground := Ground.phase }, { on := 4, ground := Ground.phase }, { on := 5, ground := Ground.phase }, { on := 6, ground := Ground.phase }, { on := 7, ground := Ground.phase }], guard := none }) rfl (fun K7 hK7 => ?_) ?_
                        · go_simp
                          refine hK7.out _ _ (trivial) (fun hHeld => ?_)
                          clear hK7 K7
                          try simp only [Act.put, List.setIfInBounds_toArray, List.set_cons_zero, List.set_cons_succ]
                          refine wpAnyH_done (by kernel_rfl) ?_ _
                          have HX10 := Lib.hid (HX9.out.set34 (.slice a8 m.pools.length c8) (.slice a9 m.bans.length c9))
                          have HB10 := Lib.hid ((HB9.out.setCell (p := ⟨w.heap.size, 3, none⟩) (Nat.le_refl _) (.slice a8 m.pools.length c8)).setCell (p := ⟨w.heap.size, 4, none⟩) (Nat.le_refl _) (.slice a9 m.bans.length c9))
                          have HP1 := Lib.hid (HOh9.out.set2 (N := w.heap.size) (Nat.lt_succ_self _) 3 (.slice a8 m.pools.length c8) 4 (.slice a9 m.bans.length c9))
                          have HP2 := Lib.hid (HOo9.out.set2 (N := w.heap.size) (Nat.lt_succ_self _) 3 (.slice a8 m.pools.length c8) 4 (.slice a9 m.bans.length c9))
                          have HP3 := Lib.hid (HO89.out.set2 (N := w.heap.size) (Nat.lt_succ_self _) 3 (.slice a8 m.pools.length c8) 4 (.slice a9 m.bans.length c9))
                          have HP4 := Lib.hid (HO9.out.set2 (N := w.heap.size) (Nat.lt_succ_self _) 3 (.slice a8 m.pools.length c8) 4 (.slice a9 m.bans.length c9))
                          generalize (w9.setCell ⟨w.heap.size, 3, none⟩ (.slice a8 m.pools.length c8)).setCell ⟨w.heap.size, 4, none⟩ (.slice a9 m.bans.length c9) = W10 at HX10 HB10 HP1 HP2 HP3 HP4 ⊢
                          clear HOh9 HOo9 HO89 HO9 HX9 HB9 HX8 HB8 HOh8 HOo8 HO8 j0 j1 j2 j3 j4 m0 m1 m2 m3 m4 l0 l1 l2 l3 l4 t3 t4 HC3 HC4 HX7 HB7 HBd HXd HOhd HOod HOh HOo
                          obtain ⟨l0, l1, l2, l3, l4⟩ := HX10.out.cells
                          have HF := Lib.hid (sheet_new (m := m) HB10.out HP1.out HP2.out HP3.out HP4.out HX10.out.lt)
                          go_wp2
                          go_ret
                          exact ⟨_, rfl, HF.out⟩
                        exact AllReadyH.nil
                      exact AllReadyH.nil
                    exact AllReadyH.nil
                  exact AllReadyH.nil
                exact AllReadyH.nil
              refine AllReadyH.cons (o := { dst := some 15, op := Op.load 81 (Operand.tmp 14), type := 81, pos := "sheet.go:16", after := #[{ on := 3, ground := Ground.data }], guard := none }) rfl (fun K7 hK7 => ?_) ?_
              · go_simp
                refine hK7.out _ _ (trivial) (fun hHeld => ?_)
                clear hK7 K7
                try simp only [Act.put, List.setIfInBounds_toArray, List.set_cons_zero, List.set_cons_succ]
                refine wpAnyH_ready (rs := [1]) (by kernel_rfl) (by simp) ?_
                refine AllReadyH.cons (o := { dst := some 12, op := Op.load 80 (Operand.tmp 11), type := 80, pos := "sheet.go:16", after := #[{ on := 0, ground := Ground.data }], guard := none }) rfl (fun K7 hK7 => ?_) ?_
                · go_simp
                  refine hK7.out _ _ (trivial) (fun hHeld => ?_)
                  clear hK7 K7
                  try simp only [Act.put, List.setIfInBounds_toArray, List.set_cons_zero, List.set_cons_succ]
                  refine wpAnyH_ready (rs := [2]) (by kernel_rfl) (by simp) ?_
                  refine AllReadyH.cons (o := { dst := some 13, op := Op.call { callee := Callee.value (Operand.func 125), args := #[Operand.tmp 12], argTypes := #[80] }, type := 80, pos := "sheet.go:16", after := #[{ on := 1, ground := Ground.data }], guard := none }) rfl (fun K7 hK7 => ?_) ?_
                  · go_simp
                    refine (HC3.out _ HBd.out).mono ?_
                    rintro e w8 ⟨v8, rfl, ho, hb⟩
                    obtain ⟨a8, c8, rfl⟩ := ho.slice
                    have HB8 := Lib.hid (HBd.out.trans (hb.mono HBd.out.size))
                    have HX8 := Lib.hid (HXd.out.keep hb)
                    have HO8 := Lib.hid (ho.mono (show w.heap.size + 1 ≤ _ from HXd.out.lt))
                    have HOh8 := Lib.hid (HOhd.out.below hb)
                    have HOo8 := Lib.hid (HOod.out.below hb)
                    obtain ⟨m0, m1, m2, m3, m4⟩ := HX8.out.cells
                    clear hb ho
                    try dsimp only
                    refine hK7.out _ _ (trivial) (fun hHeld => ?_)
                    clear hK7 K7
                    try simp only [Act.put, List.setIfInBounds_toArray, List.set_cons_zero, List.set_cons_succ]
                    refine wpAnyH_take (i := 6) (oi := { dst := some 17, op := Op.fieldAddr 83 (Operand.tmp 1) 3, type := 0, pos := "sheet.go:16", after := #[{ on := 0, ground := Ground.phase }, { on := 1, ground := Ground.phase }, { on := 2, ground := Ground.phase }, { on := 3, ground := Ground.phase }, { on := 4, ground := Ground.phase }, { on := 5, ground := Ground.textOnly Departure.lateStoresUnsure }], guard := none }) (v := ?_) rfl (by kernel_rfl) (by kernel_rfl) (by kernel_rfl) (fun _ _ _ h => h) (Or.inl ⟨by rfl, ?_⟩) hHeld ?_
                    rotate_left 1
                    · intro W hSw
                      (try dsimp only at hSw)
                      go_simp
                      try with_reducible rfl
                    try simp only [Act.put, List.setIfInBounds_toArray, List.set_cons_zero, List.set_cons_succ]
                    refine wpAnyH_ready (rs := [5]) (by kernel_rfl) (by simp) ?_
                    refine AllReadyH.cons (o := { dst := some 16, op := Op.call { callee := Callee.value (Operand.func 126), args := #[Operand.tmp 15], argTypes := #[81] }, type := 81, pos := "sheet.go:16", after := #[{ on := 4, ground := Ground.data }, { on := 2, ground := Ground.chain }], guard := none }) rfl (fun K7 hK7 => ?_) ?_
                    · go_simp
                      refine (HC4.out _ HB8.out).mono ?_
                      rintro e w9 ⟨v9, rfl, ho, hb⟩
                      obtain ⟨a9, c9, rfl⟩ := ho.slice
                      have HB9 := Lib.hid (HB8.out.trans (hb.mono HB8.out.size))
                      have HX9 := Lib.hid (HX8.out.keep hb)
                      have HO9 := Lib.hid (ho.mono (show w.heap.size + 1 ≤ _ from HX8.out.lt))
                      have HOh9 := Lib.hid (HOh8.out.below hb)
                      have HOo9 := Lib.hid (HOo8.out.below hb)
                      have HO89 := Lib.hid (HO8.out.below hb)
                      obtain ⟨j0, j1, j2, j3, j4⟩ := HX9.out.cells
                      have t3 := HX9.out.thaw 3
                      have t4 := HX9.out.thaw 4
                      clear hb ho
                      try dsimp only
                      refine hK7.out _ _ (trivial) (fun hHeld => ?_)
                      clear hK7 K7
                      try simp only [Act.put, List.setIfInBounds_toArray, List.set_cons_zero, List.set_cons_succ]
                      refine wpAnyH_ready (rs := [7]) (by kernel_rfl) (by simp) ?_
                      refine AllReadyH.cons (o := { dst := none, op := Op.store 80 (Operand.tmp 17) (Operand.tmp 13), type := 0, pos := "sheet.go:16", after := #[{ on := 6, ground := Ground.data }, { on := 2, ground := Ground.data }, { on := 5, ground := Ground.chain }, { on := 0, ground := Ground.phase }, { on := 1, ground := Ground.phase }, { on := 2, ground := Ground.phase }, { on := 3, ground := Ground.phase }, { on := 4, ground := Ground.phase }, { on := 5, ground := Ground.textOnly Departure.lateStoresUnsure }], guard := none }) rfl (fun K7 hK7 => ?_) ?_
                      · go_simp
                        refine hK7.out _ _ (trivial) (fun hHeld => ?_)
                        clear hK7 K7
                        try simp only [Act.put, List.setIfInBounds_toArray, List.set_cons_zero, List.set_cons_succ]
                        refine wpAnyH_take (i := 8) (oi := { dst := some 18, op := Op.fieldAddr 83 (Operand.tmp 1) 4, type := 0, pos := "sheet.go:16", after := #[{ on := 0, ground := Ground.phase }, { on := 1, ground := Ground.phase }, { on := 2, ground := Ground.phase }, { on := 3, ground := Ground.phase }, { on := 4, ground := Ground.phase }, { on := 5, ground := Ground.phase }, { on := 6, ground := Ground.phase }, { on := 7, ground := Ground.phase }], guard := none }) (v := ?_) rfl (by kernel_rfl) (by kernel_rfl) (by kernel_rfl) (fun _ _ _ h => h) (Or.inl ⟨by rfl, ?_⟩) hHeld ?_
                        rotate_left 1
                        · intro W hSw
                          (try dsimp only at hSw)
                          go_simp
                          try with_reducible rfl
                        try simp only [Act.put, List.setIfInBounds_toArray, List.set_cons_zero, List.set_cons_succ]
                        refine wpAnyH_ready (rs := [9]) (by kernel_rfl) (by simp) ?_
                        refine AllReadyH.cons (o := { dst := none, op := Op.store 81 (Operand.tmp 18) (Operand.tmp 16), type := 0, pos := "sheet.go:16", after := #[{ on := 8, ground := Ground.data }, { on := 5, ground := Ground.data }, { on := 7, ground := Ground.chain }, { on := 0, ground := Ground.phase }, { on := 1, ground := Ground.phase }, { on := 2, ground := Ground.phase }, { on := 3, ground := Ground.phase }, { on := 4, ground := Ground.phase }, { on := 5, ground := Ground.phase }, { on := 6, ground := Ground.phase }, { on := 7, ground := Ground.phase }], guard := none }) rfl (fun K7 hK7 => ?_) ?_
                        · go_simp
                          refine hK7.out _ _ (trivial) (fun hHeld => ?_)
                          clear hK7 K7
                          try simp only [Act.put, List.setIfInBounds_toArray, List.set_cons_zero, List.set_cons_succ]
                          refine wpAnyH_done (by kernel_rfl) ?_ _
                          have HX10 := Lib.hid (HX9.out.set34 (.slice a8 m.pools.length c8) (.slice a9 m.bans.length c9))
                          have HB10 := Lib.hid ((HB9.out.setCell (p := ⟨w.heap.size, 3, none⟩) (Nat.le_refl _) (.slice a8 m.pools.length c8)).setCell (p := ⟨w.heap.size, 4, none⟩) (Nat.le_refl _) (.slice a9 m.bans.length c9))
                          have HP1 := Lib.hid (HOh9.out.set2 (N := w.heap.size) (Nat.lt_succ_self _) 3 (.slice a8 m.pools.length c8) 4 (.slice a9 m.bans.length c9))
                          have HP2 := Lib.hid (HOo9.out.set2 (N := w.heap.size) (Nat.lt_succ_self _) 3 (.slice a8 m.pools.length c8) 4 (.slice a9 m.bans.length c9))
                          have HP3 := Lib.hid (HO89.out.set2 (N := w.heap.size) (Nat.lt_succ_self _) 3 (.slice a8 m.pools.length c8) 4 (.slice a9 m.bans.length c9))
                          have HP4 := Lib.hid (HO9.out.set2 (N := w.heap.size) (Nat.lt_succ_self _) 3 (.slice a8 m.pools.length c8) 4 (.slice a9 m.bans.length c9))
                          generalize (w9.setCell ⟨w.heap.size, 3, none⟩ (.slice a8 m.pools.length c8)).setCell ⟨w.heap.size, 4, none⟩ (.slice a9 m.bans.length c9) = W10 at HX10 HB10 HP1 HP2 HP3 HP4 ⊢
                          clear HOh9 HOo9 HO89 HO9 HX9 HB9 HX8 HB8 HOh8 HOo8 HO8 j0 j1 j2 j3 j4 m0 m1 m2 m3 m4 l0 l1 l2 l3 l4 t3 t4 HC3 HC4 HX7 HB7 HBd HXd HOhd HOod HOh HOo
                          obtain ⟨l0, l1, l2, l3, l4⟩ := HX10.out.cells
                          have HF := Lib.hid (sheet_new (m := m) HB10.out HP1.out HP2.out HP3.out HP4.out HX10.out.lt)
                          go_wp2
                          go_ret
                          exact ⟨_, rfl, HF.out⟩
                        exact AllReadyH.nil
                      exact AllReadyH.nil
                    exact AllReadyH.nil
                  exact AllReadyH.nil
                exact AllReadyH.nil
              exact AllReadyH.nil
            exact AllReadyH.nil
          exact AllReadyH.nil
        exact AllReadyH.nil
      exact AllReadyH.nil
    exact AllReadyH.nil
  exact AllReadyH.nil
  --CP1E
end Go.Proofs.Ytcofmfjhgbihkaa.crush
