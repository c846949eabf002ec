/- A ban that is added. -/
import Derived.Test.YtcofmfjhgbihkaaRows
import Derived.Test.YtcofmfjhgbihkaaMapsInsA
import Derived.Test.YtcofmfjhgbihkaaMapsPool
namespace Go.Proofs.Ytcofmfjhgbihkaa.crush
open Go.RowKit
open Go.Proofs.Ytcofmfjhgbihkaa.kit Go.Proofs.Ytcofmfjhgbihkaa.own
set_option linter.unusedVariables false
set_option linter.unusedSimpArgs false

def banV (c : IncV) : BanV := ⟨c.client, c.num⟩
def posB (xs : List BanV) (y : BanV) : Nat := (xs.takeWhile fun x => decide (ordB x y < 0)).length
def banE (y : BanV) (m : MapV) : MapV × Bool := if atBan m.bans y (posB m.bans y) || decide (64 ≤ m.bans.length) then (m, false) else (⟨m.epoch, m.hosts, m.osds, m.pools, m.bans.take (posB m.bans y) ++ y :: m.bans.drop (posB m.bans y)⟩, true)
theorem posB_le (xs : List BanV) (y : BanV) : posB xs y ≤ xs.length := by
  unfold posB
  exact List.Sublist.length_le (List.takeWhile_sublist _)

theorem SheetG.bans {U w' : World} {B : Nat → Prop} {S g cap : Nat} {m : MapV} (h : SheetG U B S g cap m) {v' : Value} {ps : List BanV} (hk : Kept 0 136 U w') (ho : OwnP bc 2 136 w' B v' ps) :
    SheetG (w'.setCell ⟨S, 4, none⟩ v') B S g cap ⟨m.epoch, m.hosts, m.osds, m.pools, ps⟩ := by
  obtain ⟨h0, hg, vh, vp, vb, h1, h2, h3, h4, h5⟩ := h
  have hx := hk.box (by decide) h1
  obtain ⟨cur, hc, -⟩ := h3.ex
  have hne : g ≠ S := fun e => by subst e; unfold MBox at h1; rw [h1] at hc; cases hc
  have hko : ∀ {α : Type} {enc : α → List Value} {k e : Nat} {v : Value} {xs : List α}, OwnP enc k e U B v xs → e ≠ 136 → OwnP enc k e w' B v xs := by
    intro α enc k e v xs h hne
    obtain ⟨⟨q1, q2⟩, q3⟩ := id h
    refine ⟨⟨q1, ?_⟩, q3⟩
    rcases q2 with ⟨rfl, h0⟩ | ⟨g, cap, cur, rfl, hB, hg, hr⟩
    · exact .inl ⟨rfl, h0⟩
    · refine .inr ⟨g, cap, cur, rfl, hB, (hk.other g (Array.getElem?_eq_some_iff.1 hg).1 (fun c f e2 => ?_)).trans hg, hr⟩
      rw [hg] at e2
      injection e2 with e3
      injection e3 with _ e4
      exact hne e4
  have h3' : OwnAt oc 4 132 w' g cap m.osds := by
    obtain ⟨cur, q1, q2, q3⟩ := h3.ex
    exact ⟨⟨cur, hk.box (by decide) q1, q2, q3⟩, h3.le, h3.max⟩
  exact ⟨h0, hg, vh, vp, v', heap_setCell_same w' S 4 _ _ v' hx, (hko h2 (by decide)).far hx (by decide) _ _, h3'.block (heap_setCell_other _ _ _ _ hne), (hko h4 (by decide)).far hx (by decide) _ _, ho.far hx (by decide) _ _⟩

set_option maxHeartbeats 16000000 in
set_option maxRecDepth 100000 in
theorem ban_any (c : IncV) (B : Nat → Prop) (S g cap : Nat) (m : MapV) (w : World) (h : SheetG w B S g cap m) (hB : In B w) (hl : m.bans.length ≤ 64) (hr : ∀ k (hk : k < m.bans.length), ordB m.bans[k] (banV c) < 0 ↔ k < posB m.bans (banV c)) :
    Calls Try.prog 132 #[.pointer (some ⟨S, 0, none⟩), c.val] w (StO B S g cap (banE (banV c) m) w) := by
  have hb := below_new w (.cells #[.int .i64 c.kind, .int .i64 c.osd, .int .i64 c.client, .int .i64 c.num, .int .i64 c.pool.size, .int .i64 c.pool.min, .int .i64 c.pool.pgs, .int .i64 c.pool.dom] 87)
  have hx := ibx_new w c
  have hg := h.keep hb
  have HBa := Lib.hid (fun u => banOf_any c u)
  have hbs := fun v u (hu : Sl bc 2 u v m.bans) => bs_any v m.bans (banV c) (posB m.bans (banV c)) u hu (posB_le _ _) hr (by omega)
  have hE : banE (banV c) m = if atBan m.bans (banV c) (posB m.bans (banV c)) || decide (64 ≤ m.bans.length) then (m, false) else (⟨m.epoch, m.hosts, m.osds, m.pools, m.bans.take (posB m.bans (banV c)) ++ banV c :: m.bans.drop (posB m.bans (banV c))⟩, true) := rfl
  have hpl := posB_le m.bans (banV c)
  generalize banE (banV c) m = R at hE ⊢
  generalize posB m.bans (banV c) = ps at hbs hE hpl
  generalize atBan m.bans (banV c) ps = q at hbs hE
  clear hr
  obtain ⟨k, o, cl, n, a, b, p, d⟩ := c
  unfold IncV.val at HBa ⊢
  simp only [banV, bc] at hb hx hg HBa hbs hE ⊢
  have HBs := Lib.hid hbs
  have HE := Lib.hid hE
  have HBB := Lib.hid hB
  obtain ⟨W, hW⟩ : ∃ W, w.alloc (.cells #[.int .i64 k, .int .i64 o, .int .i64 cl, .int .i64 n, .int .i64 a, .int .i64 b, .int .i64 p, .int .i64 d] 87) = W := ⟨_, rfl⟩
  rw [hW] at hb hg
  have hx2 : IBx W w.heap.size ⟨k, o, cl, n, ⟨a, b, p, d⟩⟩ := by rw [← hW]; exact hx
  have HB := Lib.hid hb; have HX := Lib.hid hx2; have HG := Lib.hid hg
  obtain ⟨-, -, vh, vp, vb, hm, -, -, -, hp⟩ := hg
  obtain ⟨ap, cp, rfl⟩ := hp.slice
  have HM := Lib.hid hm; have HP := Lib.hid hp
  obtain ⟨L, hL⟩ : ∃ L, m.bans.length = L := ⟨_, rfl⟩
  have HL := Lib.hid hL
  rw [hL] at hl hpl
  have HC1 := Lib.hid (fun u (hu : Below W.heap.size W u) => (HX.out.keep hu).cells)
  have HM1 := Lib.hid (fun u (hu : Below W.heap.size W u) => (HM.out.keep hu).cells.2.2.2.2)
  rw [hL] at HM1
  simp only at HC1
  have HD := Lib.hid (below_drew (Below.refl W.heap.size W))
  have s0 := HC1.out _ HD.out
  have s1 := HM1.out _ HD.out
  clear hx hx2 hb hB hm hp h hL hbs hE
  have mixed : Try.prog.follows .mixedOrders = true := by kernel_rfl
  go_enter Try.func132, Try.ntmps132
  go_upto_region 1 with fail
  clear hW
  go_region_held3 (fun u => (u.cell? ⟨w.heap.size, 0, none⟩ = some (.int .i64 k) ∧ u.cell? ⟨w.heap.size, 1, none⟩ = some (.int .i64 o) ∧ u.cell? ⟨w.heap.size, 2, none⟩ = some (.int .i64 cl) ∧ u.cell? ⟨w.heap.size, 3, none⟩ = some (.int .i64 n) ∧ u.cell? ⟨w.heap.size, 4, none⟩ = some (.int .i64 a) ∧ u.cell? ⟨w.heap.size, 5, none⟩ = some (.int .i64 b) ∧ u.cell? ⟨w.heap.size, 6, none⟩ = some (.int .i64 p) ∧ u.cell? ⟨w.heap.size, 7, none⟩ = some (.int .i64 d)) ∧ u.cell? ⟨S, 4, none⟩ = some (.slice ap L cp))
    (first | exact ⟨s0, s1⟩ | exact ⟨HC1.out _ HB5.out, HM1.out _ HB5.out⟩ | exact ⟨HC1.out _ HB4.out, HM1.out _ HB4.out⟩)
    (first
      | (go_at_call 139; refine (HBa.out _).mono ?_; rintro e w4 ⟨rfl, hb⟩; have HB4 : Hid (Below W.heap.size W w4) := Lib.hid (HD.out.trans (hb.mono HD.out.size)); clear hb)
      | (go_at_call 138; refine (HBs.out _ w4 (by have h5 := (HP.out.below HB4.out).read bc_len; rw [HL.out] at h5; exact h5)).mono ?_; rintro e w5 ⟨rfl, hb⟩; have HB5 : Hid (Below W.heap.size W w5) := Lib.hid (HB4.out.trans (hb.mono HB4.out.size)); clear hb))
  clear s0 s1
  have s0 := HC1.out _ HB5.out
  have s1 := HM1.out _ HB5.out
  have HG5 := Lib.hid (HG.out.keep HB5.out)
  have HBw := Lib.hid ((Far.of HB.out HBB.out).trans (Far.of HB5.out (HBB.out.mono HB.out.size)))
  cases q with
  | true =>
    go_wp2
    go_ret
    rw [HE.out, Bool.true_or, if_pos rfl]
    exact ⟨rfl, HG5.out, HBw.out⟩
  | false =>
    rw [Bool.false_or] at HE
    by_cases h64 : 64 ≤ L
    · have h64' : (64 : Int) ≤ L := by omega
      go_wp2
      go_ret
      rw [HE.out, HL.out, decide_eq_true h64, if_pos rfl]
      exact ⟨rfl, HG5.out, HBw.out⟩
    · have h64' : ¬ (64 : Int) ≤ L := by omega
      have HE2 := Lib.hid (by have h5 := HE.out; rw [HL.out, decide_eq_false h64, if_neg (by decide)] at h5; exact h5)
      go_upto_region 4 with fail
      clear s0 s1
      have HDD := Lib.hid (HB5.out.trans ((below_drew (Below.refl w5.heap.size w5)).mono HB5.out.size))
      have s0 := HC1.out _ HDD.out
      have s1 := HM1.out _ HDD.out
      have HIn : Hid (∀ u, Below W.heap.size W u → Calls Try.prog 141 #[.slice ap L cp, .int .i64 ps, .slice (some ⟨u.heap.size, 0, none⟩) 1 1] (u.alloc (.cells #[.int .i64 cl, .int .i64 n] 136)) (InsO B (m.bans.take ps ++ ⟨cl, n⟩ :: m.bans.drop ps) (u.alloc (.cells #[.int .i64 cl, .int .i64 n] 136)))) := Lib.hid (fun u hu => by
        have h5 := ins_any (.slice ap m.bans.length cp) m.bans ⟨cl, n⟩ ps B (u.alloc (.cells #[.int .i64 cl, .int .i64 n] 136)) ((HP.out.below hu).below (below_new u _)) (HBB.out.mono (by have h2 := HB.out.size; have h3 := hu.size; simp; omega)) u.heap.size 136 (alloc_at u _) (fun e => absurd ((HP.out.below hu).1.blk _ e).2 (Nat.lt_irrefl _)) (by rw [HL.out]; exact hpl) (by rw [HL.out]; exact hl)
        rw [HL.out] at h5
        exact h5)
      --R4
      refine wp_region_held_drew (S := fun _ => True) (by kernel_rfl) (trivial) (fun hHeld => ?_)
      refine wpAnyH_take (i := 0) (oi := { dst := some 28, op := Op.move (Operand.tmp 0), type := 164, pos := "sheet.go:98", after := #[], guard := none }) (v := ?_) rfl (by kernel_rfl) (by kernel_rfl) (by kernel_rfl) (fun _ _ _ h => h) (Or.inl ⟨by rfl, ?_⟩) hHeld ?_
      rotate_left 1
      · intro W hSw
        (try dsimp only at hSw)
        go_simp
        try with_reducible rfl
      try simp only [Act.put, List.setIfInBounds_toArray, List.set_cons_zero, List.set_cons_succ]
      refine wpAnyH_take (i := 1) (oi := { dst := some 29, op := Op.move (Operand.tmp 0), type := 164, pos := "sheet.go:98", after := #[], guard := none }) (v := ?_) rfl (by kernel_rfl) (by kernel_rfl) (by kernel_rfl) (fun _ _ _ h => h) (Or.inl ⟨by rfl, ?_⟩) hHeld ?_
      rotate_left 1
      · intro W hSw
        (try dsimp only at hSw)
        go_simp
        try with_reducible rfl
      try simp only [Act.put, List.setIfInBounds_toArray, List.set_cons_zero, List.set_cons_succ]
      refine wpAnyH_take (i := 2) (oi := { dst := some 30, op := Op.nilCheck (Operand.tmp 29), type := 0, pos := "sheet.go:98", after := #[{ on := 1, ground := Ground.data }], guard := none }) (v := ?_) rfl (by kernel_rfl) (by kernel_rfl) (by kernel_rfl) (fun _ _ _ h => h) (Or.inl ⟨by rfl, ?_⟩) hHeld ?_
      rotate_left 1
      · intro W hSw
        (try dsimp only at hSw)
        go_simp
        try with_reducible rfl
      try simp only [Act.put, List.setIfInBounds_toArray, List.set_cons_zero, List.set_cons_succ]
      refine wpAnyH_take (i := 3) (oi := { dst := some 31, op := Op.fieldAddr 185 (Operand.tmp 30) 0, type := 0, pos := "sheet.go:98", after := #[{ on := 2, ground := Ground.data }], guard := none }) (v := ?_) rfl (by kernel_rfl) (by kernel_rfl) (by kernel_rfl) (fun _ _ _ h => h) (Or.inl ⟨by rfl, ?_⟩) hHeld ?_
      rotate_left 1
      · intro W hSw
        (try dsimp only at hSw)
        go_simp
        try with_reducible rfl
      try simp only [Act.put, List.setIfInBounds_toArray, List.set_cons_zero, List.set_cons_succ]
      refine wpAnyH_take (i := 4) (oi := { dst := some 32, op := Op.fieldAddr 83 (Operand.tmp 31) 4, type := 0, pos := "sheet.go:98", after := #[{ on := 3, ground := Ground.data }], guard := none }) (v := ?_) rfl (by kernel_rfl) (by kernel_rfl) (by kernel_rfl) (fun _ _ _ h => h) (Or.inl ⟨by rfl, ?_⟩) hHeld ?_
      rotate_left 1
      · intro W hSw
        (try dsimp only at hSw)
        go_simp
        try with_reducible rfl
      try simp only [Act.put, List.setIfInBounds_toArray, List.set_cons_zero, List.set_cons_succ]
      refine wpAnyH_take (i := 6) (oi := { dst := some 34, op := Op.move (Operand.tmp 5), type := 3, pos := "sheet.go:98", after := #[], guard := none }) (v := ?_) rfl (by kernel_rfl) (by kernel_rfl) (by kernel_rfl) (fun _ _ _ h => h) (Or.inl ⟨by rfl, ?_⟩) hHeld ?_
      rotate_left 1
      · intro W hSw
        (try dsimp only at hSw)
        go_simp
        try with_reducible rfl
      try simp only [Act.put, List.setIfInBounds_toArray, List.set_cons_zero, List.set_cons_succ]
      refine wpAnyH_ready (rs := [5, 7]) (by kernel_rfl) (by simp) ?_
      refine AllReadyH.cons (o := { dst := some 33, op := Op.load 81 (Operand.tmp 32), type := 81, pos := "sheet.go:98", after := #[{ on := 4, ground := Ground.data }], guard := none }) rfl (fun K7 hK7 => ?_) ?_
      · go_simp
        refine hK7.out _ _ (trivial) (fun hHeld => ?_)
        clear hK7 K7
        try simp only [Act.put, List.setIfInBounds_toArray, List.set_cons_zero, List.set_cons_succ]
        refine wpAnyH_ready (rs := [7]) (by kernel_rfl) (by simp) ?_
        refine AllReadyH.cons (o := { dst := some 35, op := Op.load 87 (Operand.tmp 3), type := 87, pos := "sheet.go:98", after := #[], guard := none }) rfl (fun K7 hK7 => ?_) ?_
        · go_simp
          refine hK7.out _ _ (trivial) (fun hHeld => ?_)
          clear hK7 K7
          try simp only [Act.put, List.setIfInBounds_toArray, List.set_cons_zero, List.set_cons_succ]
          refine wpAnyH_ready (rs := [8]) (by kernel_rfl) (by simp) ?_
          refine AllReadyH.cons (o := { dst := some 36, op := Op.call { callee := Callee.value (Operand.func 139), args := #[Operand.tmp 35], argTypes := #[87] }, type := 136, pos := "sheet.go:98", after := #[{ on := 7, ground := Ground.data }], guard := none }) rfl (fun K7 hK7 => ?_) ?_
          · go_simp
            refine (HBa.out _).mono ?_
            rintro e w6 ⟨rfl, hb⟩
            have HB6 : Hid (Below W.heap.size W w6) := Lib.hid (HDD.out.trans (hb.mono HDD.out.size))
            clear hb s0 s1
            have s1 := HM1.out _ HB6.out
            have HB7 : Hid (Below W.heap.size W (w6.alloc (.cells #[.int .i64 cl, .int .i64 n] 136))) := Lib.hid (HB6.out.trans ((below_new w6 _).mono HB6.out.size))
            have s2 := HM1.out _ HB7.out
            try dsimp only
            refine hK7.out _ _ (trivial) (fun hHeld => ?_)
            clear hK7 K7
            try simp only [Act.put, List.setIfInBounds_toArray, List.set_cons_zero, List.set_cons_succ]
            refine wpAnyH_ready (rs := [9]) (by kernel_rfl) (by simp) ?_
            refine AllReadyH.cons (o := { dst := some 37, op := Op.buildSlice 81 1 #[(0, Operand.tmp 36)], type := 81, pos := "sheet.go:98", after := #[{ on := 8, ground := Ground.data }], guard := none }) rfl (fun K7 hK7 => ?_) ?_
            · go_simp
              refine hK7.out _ _ (trivial) (fun hHeld => ?_)
              clear hK7 K7
              try simp only [Act.put, List.setIfInBounds_toArray, List.set_cons_zero, List.set_cons_succ]
              refine wpAnyH_ready (rs := [10]) (by kernel_rfl) (by simp) ?_
              refine AllReadyH.cons (o := { dst := some 38, op := Op.call { callee := Callee.value (Operand.func 141), args := #[Operand.tmp 33, Operand.tmp 34, Operand.tmp 37], argTypes := #[81, 3, 81] }, type := 81, pos := "sheet.go:98", after := #[{ on := 5, ground := Ground.data }, { on := 6, ground := Ground.data }, { on := 9, ground := Ground.data }, { on := 8, ground := Ground.chain }], guard := none }) rfl (fun K7 hK7 => ?_) ?_
              · go_simp
                refine (HIn.out w6 HB6.out).mono ?_
                rintro e w8 ⟨v8, rfl, ho, hk, hfr⟩
                obtain ⟨a8, c8, rfl⟩ := ho.slice
                have HO8 := Lib.hid ho; have HK8 := Lib.hid hk; have HF8 := Lib.hid hfr
                have HX8 : Hid (MBox w8 S 185 m.epoch vh (.slice (some ⟨g, 0, none⟩) m.osds.length cap) vp (.slice ap m.bans.length cp)) := Lib.hid (hk.box (by decide) (HM.out.keep HB7.out))
                have s8 := HX8.out.cells.2.2.2.2
                have t8 := HX8.out.thaw 4
                clear ho hk hfr s1 s2
                try dsimp only
                refine hK7.out _ _ (trivial) (fun hHeld => ?_)
                clear hK7 K7
                try simp only [Act.put, List.setIfInBounds_toArray, List.set_cons_zero, List.set_cons_succ]
                refine wpAnyH_take (i := 11) (oi := { dst := some 39, op := Op.nilCheck (Operand.tmp 28), type := 0, pos := "sheet.go:98", after := #[{ on := 0, ground := Ground.data }, { on := 0, ground := Ground.phase }, { on := 1, ground := Ground.phase }, { on := 2, ground := Ground.phase }, { on := 3, ground := Ground.phase }, { on := 4, ground := Ground.phase }, { on := 5, ground := Ground.phase }, { on := 6, ground := Ground.phase }, { on := 7, ground := Ground.phase }, { on := 8, ground := Ground.phase }, { on := 9, ground := Ground.phase }, { on := 10, ground := Ground.phase }], guard := none }) (v := ?_) rfl (by kernel_rfl) (by kernel_rfl) (by kernel_rfl) (fun _ _ _ h => h) (Or.inl ⟨by rfl, ?_⟩) hHeld ?_
                rotate_left 1
                · intro W hSw
                  (try dsimp only at hSw)
                  go_simp
                  try with_reducible rfl
                try simp only [Act.put, List.setIfInBounds_toArray, List.set_cons_zero, List.set_cons_succ]
                refine wpAnyH_take (i := 12) (oi := { dst := some 40, op := Op.fieldAddr 185 (Operand.tmp 39) 0, type := 0, pos := "sheet.go:98", after := #[{ on := 11, ground := Ground.data }, { on := 0, ground := Ground.phase }, { on := 1, ground := Ground.phase }, { on := 2, ground := Ground.phase }, { on := 3, ground := Ground.phase }, { on := 4, ground := Ground.phase }, { on := 5, ground := Ground.phase }, { on := 6, ground := Ground.phase }, { on := 7, ground := Ground.phase }, { on := 8, ground := Ground.phase }, { on := 9, ground := Ground.phase }, { on := 10, ground := Ground.phase }], guard := none }) (v := ?_) rfl (by kernel_rfl) (by kernel_rfl) (by kernel_rfl) (fun _ _ _ h => h) (Or.inl ⟨by rfl, ?_⟩) hHeld ?_
                rotate_left 1
                · intro W hSw
                  (try dsimp only at hSw)
                  go_simp
                  try with_reducible rfl
                try simp only [Act.put, List.setIfInBounds_toArray, List.set_cons_zero, List.set_cons_succ]
                refine wpAnyH_take (i := 13) (oi := { dst := some 41, op := Op.fieldAddr 83 (Operand.tmp 40) 4, type := 0, pos := "sheet.go:98", after := #[{ on := 12, ground := Ground.data }, { on := 0, ground := Ground.phase }, { on := 1, ground := Ground.phase }, { on := 2, ground := Ground.phase }, { on := 3, ground := Ground.phase }, { on := 4, ground := Ground.phase }, { on := 5, ground := Ground.phase }, { on := 6, ground := Ground.phase }, { on := 7, ground := Ground.phase }, { on := 8, ground := Ground.phase }, { on := 9, ground := Ground.phase }, { on := 10, ground := Ground.phase }], guard := none }) (v := ?_) rfl (by kernel_rfl) (by kernel_rfl) (by kernel_rfl) (fun _ _ _ h => h) (Or.inl ⟨by rfl, ?_⟩) hHeld ?_
                rotate_left 1
                · intro W hSw
                  (try dsimp only at hSw)
                  go_simp
                  try with_reducible rfl
                try simp only [Act.put, List.setIfInBounds_toArray, List.set_cons_zero, List.set_cons_succ]
                refine wpAnyH_ready (rs := [14]) (by kernel_rfl) (by simp) ?_
                refine AllReadyH.cons (o := { dst := none, op := Op.store 81 (Operand.tmp 41) (Operand.tmp 38), type := 0, pos := "sheet.go:98", after := #[{ on := 13, ground := Ground.data }, { on := 10, ground := Ground.data }, { on := 10, ground := Ground.chain }, { on := 0, ground := Ground.phase }, { on := 1, ground := Ground.phase }, { on := 2, ground := Ground.phase }, { on := 3, ground := Ground.phase }, { on := 4, ground := Ground.phase }, { on := 5, ground := Ground.phase }, { on := 6, ground := Ground.phase }, { on := 7, ground := Ground.phase }, { on := 8, ground := Ground.phase }, { on := 9, ground := Ground.phase }, { on := 10, ground := Ground.phase }], guard := none }) rfl (fun K7 hK7 => ?_) ?_
                · go_simp
                  refine hK7.out _ _ (trivial) (fun hHeld => ?_)
                  clear hK7 K7
                  try simp only [Act.put, List.setIfInBounds_toArray, List.set_cons_zero, List.set_cons_succ]
                  refine wpAnyH_done (by kernel_rfl) ?_ _
                  clear hHeld
                  go_wp2_with fail
                  go_ret
                  rw [HE2.out]
                  have HO6 := HO8.out
                  rw [show (m.bans.take ps ++ (⟨cl, n⟩ : BanV) :: m.bans.drop ps).length = min ps m.bans.length + (m.bans.length - ps + 1) by simp] at HO6
                  exact ⟨rfl, (HG.out.keep HB7.out).bans HK8.out HO6, below_set1 (((Far.of HB.out HBB.out).trans (Far.of HB7.out (HBB.out.mono HB.out.size))).trans HF8.out) HG.out.1 _ _⟩
                exact AllReadyH.nil
              exact AllReadyH.nil
            exact AllReadyH.nil
          exact AllReadyH.nil
        exact AllReadyH.nil
      refine AllReadyH.cons (o := { dst := some 35, op := Op.load 87 (Operand.tmp 3), type := 87, pos := "sheet.go:98", after := #[], guard := none }) rfl (fun K7 hK7 => ?_) ?_
      · go_simp
        refine hK7.out _ _ (trivial) (fun hHeld => ?_)
        clear hK7 K7
        try simp only [Act.put, List.setIfInBounds_toArray, List.set_cons_zero, List.set_cons_succ]
        refine wpAnyH_ready (rs := [5, 8]) (by kernel_rfl) (by simp) ?_
        refine AllReadyH.cons (o := { dst := some 33, op := Op.load 81 (Operand.tmp 32), type := 81, pos := "sheet.go:98", after := #[{ on := 4, ground := Ground.data }], guard := none }) rfl (fun K7 hK7 => ?_) ?_
        · go_simp
          refine hK7.out _ _ (trivial) (fun hHeld => ?_)
          clear hK7 K7
          try simp only [Act.put, List.setIfInBounds_toArray, List.set_cons_zero, List.set_cons_succ]
          refine wpAnyH_ready (rs := [8]) (by kernel_rfl) (by simp) ?_
          refine AllReadyH.cons (o := { dst := some 36, op := Op.call { callee := Callee.value (Operand.func 139), args := #[Operand.tmp 35], argTypes := #[87] }, type := 136, pos := "sheet.go:98", after := #[{ on := 7, ground := Ground.data }], guard := none }) rfl (fun K7 hK7 => ?_) ?_
          · go_simp
            refine (HBa.out _).mono ?_
            rintro e w6 ⟨rfl, hb⟩
            have HB6 : Hid (Below W.heap.size W w6) := Lib.hid (HDD.out.trans (hb.mono HDD.out.size))
            clear hb s0 s1
            have s1 := HM1.out _ HB6.out
            have HB7 : Hid (Below W.heap.size W (w6.alloc (.cells #[.int .i64 cl, .int .i64 n] 136))) := Lib.hid (HB6.out.trans ((below_new w6 _).mono HB6.out.size))
            have s2 := HM1.out _ HB7.out
            try dsimp only
            refine hK7.out _ _ (trivial) (fun hHeld => ?_)
            clear hK7 K7
            try simp only [Act.put, List.setIfInBounds_toArray, List.set_cons_zero, List.set_cons_succ]
            refine wpAnyH_ready (rs := [9]) (by kernel_rfl) (by simp) ?_
            refine AllReadyH.cons (o := { dst := some 37, op := Op.buildSlice 81 1 #[(0, Operand.tmp 36)], type := 81, pos := "sheet.go:98", after := #[{ on := 8, ground := Ground.data }], guard := none }) rfl (fun K7 hK7 => ?_) ?_
            · go_simp
              refine hK7.out _ _ (trivial) (fun hHeld => ?_)
              clear hK7 K7
              try simp only [Act.put, List.setIfInBounds_toArray, List.set_cons_zero, List.set_cons_succ]
              refine wpAnyH_ready (rs := [10]) (by kernel_rfl) (by simp) ?_
              refine AllReadyH.cons (o := { dst := some 38, op := Op.call { callee := Callee.value (Operand.func 141), args := #[Operand.tmp 33, Operand.tmp 34, Operand.tmp 37], argTypes := #[81, 3, 81] }, type := 81, pos := "sheet.go:98", after := #[{ on := 5, ground := Ground.data }, { on := 6, ground := Ground.data }, { on := 9, ground := Ground.data }, { on := 8, ground := Ground.chain }], guard := none }) rfl (fun K7 hK7 => ?_) ?_
              · go_simp
                refine (HIn.out w6 HB6.out).mono ?_
                rintro e w8 ⟨v8, rfl, ho, hk, hfr⟩
                obtain ⟨a8, c8, rfl⟩ := ho.slice
                have HO8 := Lib.hid ho; have HK8 := Lib.hid hk; have HF8 := Lib.hid hfr
                have HX8 : Hid (MBox w8 S 185 m.epoch vh (.slice (some ⟨g, 0, none⟩) m.osds.length cap) vp (.slice ap m.bans.length cp)) := Lib.hid (hk.box (by decide) (HM.out.keep HB7.out))
                have s8 := HX8.out.cells.2.2.2.2
                have t8 := HX8.out.thaw 4
                clear ho hk hfr s1 s2
                try dsimp only
                refine hK7.out _ _ (trivial) (fun hHeld => ?_)
                clear hK7 K7
                try simp only [Act.put, List.setIfInBounds_toArray, List.set_cons_zero, List.set_cons_succ]
                refine wpAnyH_take (i := 11) (oi := { dst := some 39, op := Op.nilCheck (Operand.tmp 28), type := 0, pos := "sheet.go:98", after := #[{ on := 0, ground := Ground.data }, { on := 0, ground := Ground.phase }, { on := 1, ground := Ground.phase }, { on := 2, ground := Ground.phase }, { on := 3, ground := Ground.phase }, { on := 4, ground := Ground.phase }, { on := 5, ground := Ground.phase }, { on := 6, ground := Ground.phase }, { on := 7, ground := Ground.phase }, { on := 8, ground := Ground.phase }, { on := 9, ground := Ground.phase }, { on := 10, ground := Ground.phase }], guard := none }) (v := ?_) rfl (by kernel_rfl) (by kernel_rfl) (by kernel_rfl) (fun _ _ _ h => h) (Or.inl ⟨by rfl, ?_⟩) hHeld ?_
                rotate_left 1
                · intro W hSw
                  (try dsimp only at hSw)
                  go_simp
                  try with_reducible rfl
                try simp only [Act.put, List.setIfInBounds_toArray, List.set_cons_zero, List.set_cons_succ]
                refine wpAnyH_take (i := 12) (oi := { dst := some 40, op := Op.fieldAddr 185 (Operand.tmp 39) 0, type := 0, pos := "sheet.go:98", after := #[{ on := 11, ground := Ground.data }, { on := 0, ground := Ground.phase }, { on := 1, ground := Ground.phase }, { on := 2, ground := Ground.phase }, { on := 3, ground := Ground.phase }, { on := 4, ground := Ground.phase }, { on := 5, ground := Ground.phase }, { on := 6, ground := Ground.phase }, { on := 7, ground := Ground.phase }, { on := 8, ground := Ground.phase }, { on := 9, ground := Ground.phase }, { on := 10, ground := Ground.phase }], guard := none }) (v := ?_) rfl (by kernel_rfl) (by kernel_rfl) (by kernel_rfl) (fun _ _ _ h => h) (Or.inl ⟨by rfl, ?_⟩) hHeld ?_
                rotate_left 1
                · intro W hSw
                  (try dsimp only at hSw)
                  go_simp
                  try with_reducible rfl
                try simp only [Act.put, List.setIfInBounds_toArray, List.set_cons_zero, List.set_cons_succ]
                refine wpAnyH_take (i := 13) (oi := { dst := some 41, op := Op.fieldAddr 83 (Operand.tmp 40) 4, type := 0, pos := "sheet.go:98", after := #[{ on := 12, ground := Ground.data }, { on := 0, ground := Ground.phase }, { on := 1, ground := Ground.phase }, { on := 2, ground := Ground.phase }, { on := 3, ground := Ground.phase }, { on := 4, ground := Ground.phase }, { on := 5, ground := Ground.phase }, { on := 6, ground := Ground.phase }, { on := 7, ground := Ground.phase }, { on := 8, ground := Ground.phase }, { on := 9, ground := Ground.phase }, { on := 10, ground := Ground.phase }], guard := none }) (v := ?_) rfl (by kernel_rfl) (by kernel_rfl) (by kernel_rfl) (fun _ _ _ h => h) (Or.inl ⟨by rfl, ?_⟩) hHeld ?_
                rotate_left 1
                · intro W hSw
                  (try dsimp only at hSw)
                  go_simp
                  try with_reducible rfl
                try simp only [Act.put, List.setIfInBounds_toArray, List.set_cons_zero, List.set_cons_succ]
                refine wpAnyH_ready (rs := [14]) (by kernel_rfl) (by simp) ?_
                refine AllReadyH.cons (o := { dst := none, op := Op.store 81 (Operand.tmp 41) (Operand.tmp 38), type := 0, pos := "sheet.go:98", after := #[{ on := 13, ground := Ground.data }, { on := 10, ground := Ground.data }, { on := 10, ground := Ground.chain }, { on := 0, ground := Ground.phase }, { on := 1, ground := Ground.phase }, { on := 2, ground := Ground.phase }, { on := 3, ground := Ground.phase }, { on := 4, ground := Ground.phase }, { on := 5, ground := Ground.phase }, { on := 6, ground := Ground.phase }, { on := 7, ground := Ground.phase }, { on := 8, ground := Ground.phase }, { on := 9, ground := Ground.phase }, { on := 10, ground := Ground.phase }], guard := none }) rfl (fun K7 hK7 => ?_) ?_
                · go_simp
                  refine hK7.out _ _ (trivial) (fun hHeld => ?_)
                  clear hK7 K7
                  try simp only [Act.put, List.setIfInBounds_toArray, List.set_cons_zero, List.set_cons_succ]
                  refine wpAnyH_done (by kernel_rfl) ?_ _
                  clear hHeld
                  go_wp2_with fail
                  go_ret
                  rw [HE2.out]
                  have HO6 := HO8.out
                  rw [show (m.bans.take ps ++ (⟨cl, n⟩ : BanV) :: m.bans.drop ps).length = min ps m.bans.length + (m.bans.length - ps + 1) by simp] at HO6
                  exact ⟨rfl, (HG.out.keep HB7.out).bans HK8.out HO6, below_set1 (((Far.of HB.out HBB.out).trans (Far.of HB7.out (HBB.out.mono HB.out.size))).trans HF8.out) HG.out.1 _ _⟩
                exact AllReadyH.nil
              exact AllReadyH.nil
            exact AllReadyH.nil
          exact AllReadyH.nil
        refine AllReadyH.cons (o := { dst := some 36, op := Op.call { callee := Callee.value (Operand.func 139), args := #[Operand.tmp 35], argTypes := #[87] }, type := 136, pos := "sheet.go:98", after := #[{ on := 7, ground := Ground.data }], guard := none }) rfl (fun K7 hK7 => ?_) ?_
        · go_simp
          refine (HBa.out _).mono ?_
          rintro e w6 ⟨rfl, hb⟩
          have HB6 : Hid (Below W.heap.size W w6) := Lib.hid (HDD.out.trans (hb.mono HDD.out.size))
          clear hb s0 s1
          have s1 := HM1.out _ HB6.out
          have HB7 : Hid (Below W.heap.size W (w6.alloc (.cells #[.int .i64 cl, .int .i64 n] 136))) := Lib.hid (HB6.out.trans ((below_new w6 _).mono HB6.out.size))
          have s2 := HM1.out _ HB7.out
          try dsimp only
          refine hK7.out _ _ (trivial) (fun hHeld => ?_)
          clear hK7 K7
          try simp only [Act.put, List.setIfInBounds_toArray, List.set_cons_zero, List.set_cons_succ]
          refine wpAnyH_ready (rs := [5, 9]) (by kernel_rfl) (by simp) ?_
          refine AllReadyH.cons (o := { dst := some 33, op := Op.load 81 (Operand.tmp 32), type := 81, pos := "sheet.go:98", after := #[{ on := 4, ground := Ground.data }], guard := none }) rfl (fun K7 hK7 => ?_) ?_
          · go_simp
            refine hK7.out _ _ (trivial) (fun hHeld => ?_)
            clear hK7 K7
            try simp only [Act.put, List.setIfInBounds_toArray, List.set_cons_zero, List.set_cons_succ]
            refine wpAnyH_ready (rs := [9]) (by kernel_rfl) (by simp) ?_
            refine AllReadyH.cons (o := { dst := some 37, op := Op.buildSlice 81 1 #[(0, Operand.tmp 36)], type := 81, pos := "sheet.go:98", after := #[{ on := 8, ground := Ground.data }], guard := none }) rfl (fun K7 hK7 => ?_) ?_
            · go_simp
              refine hK7.out _ _ (trivial) (fun hHeld => ?_)
              clear hK7 K7
              try simp only [Act.put, List.setIfInBounds_toArray, List.set_cons_zero, List.set_cons_succ]
              refine wpAnyH_ready (rs := [10]) (by kernel_rfl) (by simp) ?_
              refine AllReadyH.cons (o := { dst := some 38, op := Op.call { callee := Callee.value (Operand.func 141), args := #[Operand.tmp 33, Operand.tmp 34, Operand.tmp 37], argTypes := #[81, 3, 81] }, type := 81, pos := "sheet.go:98", after := #[{ on := 5, ground := Ground.data }, { on := 6, ground := Ground.data }, { on := 9, ground := Ground.data }, { on := 8, ground := Ground.chain }], guard := none }) rfl (fun K7 hK7 => ?_) ?_
              · go_simp
                refine (HIn.out w6 HB6.out).mono ?_
                rintro e w8 ⟨v8, rfl, ho, hk, hfr⟩
                obtain ⟨a8, c8, rfl⟩ := ho.slice
                have HO8 := Lib.hid ho; have HK8 := Lib.hid hk; have HF8 := Lib.hid hfr
                have HX8 : Hid (MBox w8 S 185 m.epoch vh (.slice (some ⟨g, 0, none⟩) m.osds.length cap) vp (.slice ap m.bans.length cp)) := Lib.hid (hk.box (by decide) (HM.out.keep HB7.out))
                have s8 := HX8.out.cells.2.2.2.2
                have t8 := HX8.out.thaw 4
                clear ho hk hfr s1 s2
                try dsimp only
                refine hK7.out _ _ (trivial) (fun hHeld => ?_)
                clear hK7 K7
                try simp only [Act.put, List.setIfInBounds_toArray, List.set_cons_zero, List.set_cons_succ]
                refine wpAnyH_take (i := 11) (oi := { dst := some 39, op := Op.nilCheck (Operand.tmp 28), type := 0, pos := "sheet.go:98", after := #[{ on := 0, ground := Ground.data }, { on := 0, ground := Ground.phase }, { on := 1, ground := Ground.phase }, { on := 2, ground := Ground.phase }, { on := 3, ground := Ground.phase }, { on := 4, ground := Ground.phase }, { on := 5, ground := Ground.phase }, { on := 6, ground := Ground.phase }, { on := 7, ground := Ground.phase }, { on := 8, ground := Ground.phase }, { on := 9, ground := Ground.phase }, { on := 10, ground := Ground.phase }], guard := none }) (v := ?_) rfl (by kernel_rfl) (by kernel_rfl) (by kernel_rfl) (fun _ _ _ h => h) (Or.inl ⟨by rfl, ?_⟩) hHeld ?_
                rotate_left 1
                · intro W hSw
                  (try dsimp only at hSw)
                  go_simp
                  try with_reducible rfl
                try simp only [Act.put, List.setIfInBounds_toArray, List.set_cons_zero, List.set_cons_succ]
                refine wpAnyH_take (i := 12) (oi := { dst := some 40, op := Op.fieldAddr 185 (Operand.tmp 39) 0, type := 0, pos := "sheet.go:98", after := #[{ on := 11, ground := Ground.data }, { on := 0, ground := Ground.phase }, { on := 1, ground := Ground.phase }, { on := 2, ground := Ground.phase }, { on := 3, ground := Ground.phase }, { on := 4, ground := Ground.phase }, { on := 5, ground := Ground.phase }, { on := 6, ground := Ground.phase }, { on := 7, ground := Ground.phase }, { on := 8, ground := Ground.phase }, { on := 9, ground := Ground.phase }, { on := 10, ground := Ground.phase }], guard := none }) (v := ?_) rfl (by kernel_rfl) (by kernel_rfl) (by kernel_rfl) (fun _ _ _ h => h) (Or.inl ⟨by rfl, ?_⟩) hHeld ?_
                rotate_left 1
                · intro W hSw
                  (try dsimp only at hSw)
                  go_simp
                  try with_reducible rfl
                try simp only [Act.put, List.setIfInBounds_toArray, List.set_cons_zero, List.set_cons_succ]
                refine wpAnyH_take (i := 13) (oi := { dst := some 41, op := Op.fieldAddr 83 (Operand.tmp 40) 4, type := 0, pos := "sheet.go:98", after := #[{ on := 12, ground := Ground.data }, { on := 0, ground := Ground.phase }, { on := 1, ground := Ground.phase }, { on := 2, ground := Ground.phase }, { on := 3, ground := Ground.phase }, { on := 4, ground := Ground.phase }, { on := 5, ground := Ground.phase }, { on := 6, ground := Ground.phase }, { on := 7, ground := Ground.phase }, { on := 8, ground := Ground.phase }, { on := 9, ground := Ground.phase }, { on := 10, ground := Ground.phase }], guard := none }) (v := ?_) rfl (by kernel_rfl) (by kernel_rfl) (by kernel_rfl) (fun _ _ _ h => h) (Or.inl ⟨by rfl, ?_⟩) hHeld ?_
                rotate_left 1
                · intro W hSw
                  (try dsimp only at hSw)
                  go_simp
                  try with_reducible rfl
                try simp only [Act.put, List.setIfInBounds_toArray, List.set_cons_zero, List.set_cons_succ]
                refine wpAnyH_ready (rs := [14]) (by kernel_rfl) (by simp) ?_
                refine AllReadyH.cons (o := { dst := none, op := Op.store 81 (Operand.tmp 41) (Operand.tmp 38), type := 0, pos := "sheet.go:98", after := #[{ on := 13, ground := Ground.data }, { on := 10, ground := Ground.data }, { on := 10, ground := Ground.chain }, { on := 0, ground := Ground.phase }, { on := 1, ground := Ground.phase }, { on := 2, ground := Ground.phase }, { on := 3, ground := Ground.phase }, { on := 4, ground := Ground.phase }, { on := 5, ground := Ground.phase }, { on := 6, ground := Ground.phase }, { on := 7, ground := Ground.phase }, { on := 8, ground := Ground.phase }, { on := 9, ground := Ground.phase }, { on := 10, ground := Ground.phase }], guard := none }) rfl (fun K7 hK7 => ?_) ?_
                · go_simp
                  refine hK7.out _ _ (trivial) (fun hHeld => ?_)
                  clear hK7 K7
                  try simp only [Act.put, List.setIfInBounds_toArray, List.set_cons_zero, List.set_cons_succ]
                  refine wpAnyH_done (by kernel_rfl) ?_ _
                  clear hHeld
                  go_wp2_with fail
                  go_ret
                  rw [HE2.out]
                  have HO6 := HO8.out
                  rw [show (m.bans.take ps ++ (⟨cl, n⟩ : BanV) :: m.bans.drop ps).length = min ps m.bans.length + (m.bans.length - ps + 1) by simp] at HO6
                  exact ⟨rfl, (HG.out.keep HB7.out).bans HK8.out HO6, below_set1 (((Far.of HB.out HBB.out).trans (Far.of HB7.out (HBB.out.mono HB.out.size))).trans HF8.out) HG.out.1 _ _⟩
                exact AllReadyH.nil
              exact AllReadyH.nil
            exact AllReadyH.nil
          refine AllReadyH.cons (o := { dst := some 37, op := Op.buildSlice 81 1 #[(0, Operand.tmp 36)], type := 81, pos := "sheet.go:98", after := #[{ on := 8, ground := Ground.data }], guard := none }) rfl (fun K7 hK7 => ?_) ?_
          · go_simp
            refine hK7.out _ _ (trivial) (fun hHeld => ?_)
            clear hK7 K7
            try simp only [Act.put, List.setIfInBounds_toArray, List.set_cons_zero, List.set_cons_succ]
            refine wpAnyH_ready (rs := [5]) (by kernel_rfl) (by simp) ?_
            refine AllReadyH.cons (o := { dst := some 33, op := Op.load 81 (Operand.tmp 32), type := 81, pos := "sheet.go:98", after := #[{ on := 4, ground := Ground.data }], guard := none }) rfl (fun K7 hK7 => ?_) ?_
            · go_simp
              refine hK7.out _ _ (trivial) (fun hHeld => ?_)
              clear hK7 K7
              try simp only [Act.put, List.setIfInBounds_toArray, List.set_cons_zero, List.set_cons_succ]
              refine wpAnyH_ready (rs := [10]) (by kernel_rfl) (by simp) ?_
              refine AllReadyH.cons (o := { dst := some 38, op := Op.call { callee := Callee.value (Operand.func 141), args := #[Operand.tmp 33, Operand.tmp 34, Operand.tmp 37], argTypes := #[81, 3, 81] }, type := 81, pos := "sheet.go:98", after := #[{ on := 5, ground := Ground.data }, { on := 6, ground := Ground.data }, { on := 9, ground := Ground.data }, { on := 8, ground := Ground.chain }], guard := none }) rfl (fun K7 hK7 => ?_) ?_
              · go_simp
                refine (HIn.out w6 HB6.out).mono ?_
                rintro e w8 ⟨v8, rfl, ho, hk, hfr⟩
                obtain ⟨a8, c8, rfl⟩ := ho.slice
                have HO8 := Lib.hid ho; have HK8 := Lib.hid hk; have HF8 := Lib.hid hfr
                have HX8 : Hid (MBox w8 S 185 m.epoch vh (.slice (some ⟨g, 0, none⟩) m.osds.length cap) vp (.slice ap m.bans.length cp)) := Lib.hid (hk.box (by decide) (HM.out.keep HB7.out))
                have s8 := HX8.out.cells.2.2.2.2
                have t8 := HX8.out.thaw 4
                clear ho hk hfr s1 s2
                try dsimp only
                refine hK7.out _ _ (trivial) (fun hHeld => ?_)
                clear hK7 K7
                try simp only [Act.put, List.setIfInBounds_toArray, List.set_cons_zero, List.set_cons_succ]
                refine wpAnyH_take (i := 11) (oi := { dst := some 39, op := Op.nilCheck (Operand.tmp 28), type := 0, pos := "sheet.go:98", after := #[{ on := 0, ground := Ground.data }, { on := 0, ground := Ground.phase }, { on := 1, ground := Ground.phase }, { on := 2, ground := Ground.phase }, { on := 3, ground := Ground.phase }, { on := 4, ground := Ground.phase }, { on := 5, ground := Ground.phase }, { on := 6, ground := Ground.phase }, { on := 7, ground := Ground.phase }, { on := 8, ground := Ground.phase }, { on := 9, ground := Ground.phase }, { on := 10, ground := Ground.phase }], guard := none }) (v := ?_) rfl (by kernel_rfl) (by kernel_rfl) (by kernel_rfl) (fun _ _ _ h => h) (Or.inl ⟨by rfl, ?_⟩) hHeld ?_
                rotate_left 1
                · intro W hSw
                  (try dsimp only at hSw)
                  go_simp
                  try with_reducible rfl
                try simp only [Act.put, List.setIfInBounds_toArray, List.set_cons_zero, List.set_cons_succ]
                refine wpAnyH_take (i := 12) (oi := { dst := some 40, op := Op.fieldAddr 185 (Operand.tmp 39) 0, type := 0, pos := "sheet.go:98", after := #[{ on := 11, ground := Ground.data }, { on := 0, ground := Ground.phase }, { on := 1, ground := Ground.phase }, { on := 2, ground := Ground.phase }, { on := 3, ground := Ground.phase }, { on := 4, ground := Ground.phase }, { on := 5, ground := Ground.phase }, { on := 6, ground := Ground.phase }, { on := 7, ground := Ground.phase }, { on := 8, ground := Ground.phase }, { on := 9, ground := Ground.phase }, { on := 10, ground := Ground.phase }], guard := none }) (v := ?_) rfl (by kernel_rfl) (by kernel_rfl) (by kernel_rfl) (fun _ _ _ h => h) (Or.inl ⟨by rfl, ?_⟩) hHeld ?_
                rotate_left 1
                · intro W hSw
                  (try dsimp only at hSw)
                  go_simp
                  try with_reducible rfl
                try simp only [Act.put, List.setIfInBounds_toArray, List.set_cons_zero, List.set_cons_succ]
                refine wpAnyH_take (i := 13) (oi := { dst := some 41, op := Op.fieldAddr 83 (Operand.tmp 40) 4, type := 0, pos := "sheet.go:98", after := #[{ on := 12, ground := Ground.data }, { on := 0, ground := Ground.phase }, { on := 1, ground := Ground.phase }, { on := 2, ground := Ground.phase }, { on := 3, ground := Ground.phase }, { on := 4, ground := Ground.phase }, { on := 5, ground := Ground.phase }, { on := 6, ground := Ground.phase }, { on := 7, ground := Ground.phase }, { on := 8, ground := Ground.phase }, { on := 9, ground := Ground.phase }, { on := 10, ground := Ground.phase }], guard := none }) (v := ?_) rfl (by kernel_rfl) (by kernel_rfl) (by kernel_rfl) (fun _ _ _ h => h) (Or.inl ⟨by rfl, ?_⟩) hHeld ?_
                rotate_left 1
                · intro W hSw
                  (try dsimp only at hSw)
                  go_simp
                  try with_reducible rfl
                try simp only [Act.put, List.setIfInBounds_toArray, List.set_cons_zero, List.set_cons_succ]
                refine wpAnyH_ready (rs := [14]) (by kernel_rfl) (by simp) ?_
                refine AllReadyH.cons (o := { dst := none, op := Op.store 81 (Operand.tmp 41) (Operand.tmp 38), type := 0, pos := "sheet.go:98", after := #[{ on := 13, ground := Ground.data }, { on := 10, ground := Ground.data }, { on := 10, ground := Ground.chain }, { on := 0, ground := Ground.phase }, { on := 1, ground := Ground.phase }, { on := 2, ground := Ground.phase }, { on := 3, ground := Ground.phase }, { on := 4, ground := Ground.phase }, { on := 5, ground := Ground.phase }, { on := 6, ground := Ground.phase }, { on := 7, ground := Ground.phase }, { on := 8, ground := Ground.phase }, { on := 9, ground := Ground.phase }, { on := 10, ground := Ground.phase }], guard := none }) rfl (fun K7 hK7 => ?_) ?_
                · go_simp
                  refine hK7.out _ _ (trivial) (fun hHeld => ?_)
                  clear hK7 K7
                  try simp only [Act.put, List.setIfInBounds_toArray, List.set_cons_zero, List.set_cons_succ]
                  refine wpAnyH_done (by kernel_rfl) ?_ _
                  clear hHeld
                  go_wp2_with fail
                  go_ret
                  rw [HE2.out]
                  have HO6 := HO8.out
                  rw [show (m.bans.take ps ++ (⟨cl, n⟩ : BanV) :: m.bans.drop ps).length = min ps m.bans.length + (m.bans.length - ps + 1) by simp] at HO6
                  exact ⟨rfl, (HG.out.keep HB7.out).bans HK8.out HO6, below_set1 (((Far.of HB.out HBB.out).trans (Far.of HB7.out (HBB.out.mono HB.out.size))).trans HF8.out) HG.out.1 _ _⟩
                exact AllReadyH.nil
              exact AllReadyH.nil
            exact AllReadyH.nil
          exact AllReadyH.nil
        exact AllReadyH.nil
      exact AllReadyH.nil
      --R4E
end Go.Proofs.Ytcofmfjhgbihkaa.crush
