/- ReportQueues (P17.10): the law's walk. -/
import Derived.Test.YtcofmfjhgbihkaaRows
import Derived.Test.YtcofmfjhgbihkaaRepMB
import Derived.Test.YtcofmfjhgbihkaaMapsRFit2
import Derived.Test.YtcofmfjhgbihkaaMapsOk
namespace Go.Proofs.Ytcofmfjhgbihkaa.crush
open Go.RowKit
open Go.Proofs.Ytcofmfjhgbihkaa.kit Go.Proofs.Ytcofmfjhgbihkaa.own
set_option linter.unusedVariables false
set_option linter.unusedSimpArgs false

/-- A queue that is right: none twice, all useful, no more than there is room for. -/
def GoodQ (m : MapV) (q : List IncV) : Prop := q.length ≤ 16 ∧ (∀ x, x ∈ q → usefulB m x = true) ∧ (∀ i j (hi : i < q.length) (hj : j < q.length), j < i → ¬ q[i] = q[j])
theorem goodQ_nil (m : MapV) : GoodQ m [] := ⟨by simp, fun x h => (by cases h), fun i j hi => (by simp at hi)⟩
theorem addE_good {m : MapV} {q : List IncV} (h : GoodQ m q) (c : IncV) : GoodQ m (addE q m c).1 ∧ (addE q m c).1.length = (if (addE q m c).2 = true then q.length + 1 else q.length) := by
  unfold addE
  split
  · exact ⟨h, rfl⟩
  · rename_i hn
    have h1 : q.length < 16 := by rcases Nat.lt_or_ge q.length 16 with h | h; exact h; exact absurd (Or.inl h) hn
    have h2 : ¬ hasInc q c = true := fun h => hn (Or.inr (Or.inl h))
    have h3 : usefulB m c = true := by cases hu : usefulB m c with | true => rfl | false => exact absurd (Or.inr (Or.inr hu)) hn
    have h4 : ∀ k (hk : k < q.length), ¬ q[k] = c := fun k hk e => h2 (List.any_eq_true.2 ⟨_, List.getElem_mem hk, decide_eq_true e.symm⟩)
    refine ⟨⟨by simp; omega, fun x hx => ?_, fun i j hi hj hlt => ?_⟩, by simp⟩
    · rcases List.mem_append.1 hx with hx | hx
      · exact h.2.1 x hx
      · rw [List.mem_singleton.1 hx]; exact h3
    · simp at hi hj
      rcases Nat.lt_or_ge i q.length with hi2 | hi2
      · rw [List.getElem_append_left hi2, List.getElem_append_left (by omega)]
        exact h.2.2 i j hi2 (by omega) hlt
      · obtain rfl : i = q.length := by omega
        rw [List.getElem_append_left (show j < q.length by omega)]
        simp
        exact fun e => h4 j (by omega) e.symm
theorem firstI_good {m : MapV} {x : IncV} {tl : List IncV} (h : GoodQ m (x :: tl)) : firstI (x :: tl) m = (x, tl, true) :=
  firstI_at (l := x :: tl) (i := 0) (by simp) (h.2.1 x (by simp)) (fun j hj h0 => by omega)
theorem firstI_nil (m : MapV) : firstI [] m = (zeroI, [], false) := rfl

set_option maxHeartbeats 32000000 in
set_option maxRecDepth 100000 in
theorem walkQueues (vl v : Value) (l : List IncV) (m : MapV) (w : World) (hl : Sl nc 8 w vl l) (h : MapR w v m) :
    Calls Try.prog 8 #[vl, v] w fun e w' => e = .returned (.bool true) ∧ Below w.heap.size w w' := by
  have HMr := Lib.hid (fun u (hu : Below w.heap.size w u) => h.keep hu)
  have HS := Lib.hid (fun u (hu : Below w.heap.size w u) => hl.keep hu)
  have HFt := Lib.hid (fun u (hu : Below w.heap.size w u) => rFit_any v m u (h.keep hu))
  have HAw := Lib.hid (fun u => awakeR_any u)
  have HOk := Lib.hid (fun h => okMap_small (m := m) h)
  have HAd0 : Hid (okMap m = true → ∀ q c vq u, GoodQ m q → Below w.heap.size w u → Sl nc 8 u vq q → Calls Try.prog 42 #[vq, v, c.val] u (AddS (addE q m c) u)) := Lib.hid (fun hm q c vq u hq hu hs => Add_any vq v q c m u hs (by have := hq.1; omega) (h.keep hu) (okMap_small hm).1 (okMap_small hm).2.1 (okMap_small hm).2.2.2)
  have HUs0 : Hid (okMap m = true → ∀ c u, usefulB m c = true → Below w.heap.size w u → Calls Try.prog 46 #[v, c.val] u fun e w' => e = .returned (.bool true) ∧ Below u.heap.size u w') := Lib.hid (fun hm c u hc hu => by rw [← hc]; exact rUseful_any v c m u (h.keep hu) (okMap_small hm).2.2.2)
  have HFi0 : Hid (okMap m = true → ∀ q vq B u, GoodQ m q → Below w.heap.size w u → Own nc 8 87 u B vq q → Calls Try.prog 47 #[vq, v] u (FirstS (firstI q m) u)) := Lib.hid (fun hm q vq B u hq hu ho => FirstL_any vq v q m u (ho.read nc_len) (own_cap ho) (by have := hq.1; omega) (h.keep hu) (okMap_small hm).1 (okMap_small hm).2.1 (okMap_small hm).2.2.2)
  have HQe := Lib.hid (fun x y u => eql_inc x y u)
  obtain ⟨vh, vo, vp, vb, rfl, h1, h2, h3, h4⟩ := h
  obtain ⟨ah, ch, rfl⟩ := h1.slice
  obtain ⟨ao, co, rfl⟩ := h2.slice
  obtain ⟨ap, cp, rfl⟩ := h3.slice
  obtain ⟨ab, cb, rfl⟩ := h4.slice
  obtain ⟨al, yl, rfl⟩ := hl.slice
  have hmx := hl.1
  obtain ⟨R, hR⟩ : ∃ R, okMap m = R := ⟨_, rfl⟩
  rw [hR] at HFt HAd0 HUs0 HFi0
  generalize m.hosts.length = Lh at HMr HFt HAd0 HUs0 HFi0 ⊢
  generalize m.osds.length = Lo at HMr HFt HAd0 HUs0 HFi0 ⊢
  generalize m.pools.length = Lp at HMr HFt HAd0 HUs0 HFi0 ⊢
  generalize m.bans.length = Lb at HMr HFt HAd0 HUs0 HFi0 ⊢
  obtain ⟨L, hL⟩ : ∃ L, l.length = L := ⟨_, rfl⟩
  have HL := Lib.hid hL
  rw [hL] at HS hmx ⊢
  clear h1 h2 h3 h4 hl hL hR HOk
  have HB := Lib.hid (below_new w (.cells #[.int .i64 m.epoch, .slice ah Lh ch, .slice ao Lo co, .slice ap Lp cp, .slice ab Lb cb] 83))
  have HX := Lib.hid (mbox_new w 83 m.epoch (.slice ah Lh ch) (.slice ao Lo co) (.slice ap Lp cp) (.slice ab Lb cb))
  go_enter Try.func8, Try.ntmps8
  go_upto_region 1 with fail
  generalize w.alloc (.cells #[.int .i64 m.epoch, .slice ah Lh ch, .slice ao Lo co, .slice ap Lp cp, .slice ab Lb cb] 83) = W at HB HX ⊢
  obtain ⟨l0, l1, l2, l3, l4⟩ := HX.out.cells
  cases R with
  | false =>
    go_wp2_with (first
      | (go_at_call 40; refine (HFt.out _ HB.out).mono ?_; rintro e V ⟨rfl, hb⟩; have HB := Lib.hid (HB.out.trans (hb.mono HB.out.size)); clear hb l0 l1 l2 l3 l4)
      | (go_at_call 41; refine (HAw.out _).mono ?_; rintro e V2 ⟨rfl, hb⟩; have HB := Lib.hid (HB.out.trans (hb.mono HB.out.size)); clear hb))
    go_ret
    exact ⟨rfl, HB.out⟩
  | true =>
    have HAd := Lib.hid (HAd0.out rfl)
    have HUs := Lib.hid (HUs0.out rfl)
    have HFi := Lib.hid (HFi0.out rfl)
    clear HAd0 HUs0 HFi0
    go_upto_region 3 with (go_at_call 40; refine (HFt.out _ HB.out).mono ?_; rintro e V ⟨rfl, hb⟩; have HX := Lib.hid (HX.out.keep hb); have HB := Lib.hid (HB.out.trans (hb.mono HB.out.size)); clear hb l0 l1 l2 l3 l4)
    clear HFt
    go_upto_region 5 with fail
    go_loopw [5, 6, 7, 8] (fun v5 v6 v7 v8 wr => ∃ (k : Nat) (qs : List IncV), k ≤ L ∧ v6 = .int .i64 k ∧ Own nc 8 87 wr V.heap.size v5 qs ∧ GoodQ m qs ∧ Below V.heap.size V wr) (fun _ i _ _ _ => L - (intOf i).toNat)
    case atStart => exact ⟨0, [], by omega, rfl, Own.nil _ _ _, goodQ_nil m, Below.refl _ _⟩
    case round =>
      obtain ⟨k, qs, hk, rfl, ho, hg, hbw⟩ := hrel
      have HO := Lib.hid ho; have HG := Lib.hid hg; have HBv := Lib.hid hbw
      have HBw := Lib.hid (HB.out.trans (hbw.mono HB.out.size))
      have HXw := Lib.hid (HX.out.keep hbw)
      obtain ⟨a5, c5, rfl⟩ := ho.slice
      have hk0 : (0 : Int) ≤ k := by omega
      by_cases hlt : k < L
      · have hlt' : (k : Int) < L := by omega
        have hi : k < l.length := by rw [HL.out]; exact hlt
        obtain ⟨g, off, rfl, hbl, hr⟩ := sl_elem (HS.out _ HBw.out) k hi
        have HE : Hid (∀ u, Below wr.heap.size wr u → u.rangeAt g (off + k * 8) (nc l[k])) := Lib.hid (fun u hu => range_keep hr hbl hu)
        obtain ⟨x, hx⟩ : ∃ x, l[k] = x := ⟨_, rfl⟩
        rw [hx] at HE
        obtain ⟨R, hR⟩ : ∃ R, addE qs m x = R := ⟨_, rfl⟩
        have HGn := Lib.hid (addE_good HG.out x)
        have HAx := Lib.hid (fun u vq (hu : Below w.heap.size w u) (hs : Sl nc 8 u vq qs) => HAd.out qs x vq u HG.out hu hs)
        rw [hR] at HGn HAx
        obtain ⟨xk, xo, xc, xn, ⟨xa, xb, xp, xd⟩⟩ := x
        unfold IncV.val AddS at HAx
        simp only at HAx
        have HE : Hid (∀ u, Below wr.heap.size wr u → (u.cell? ⟨g, off + k * 8, none⟩ = some (.int .i64 xk) ∧ u.cell? ⟨g, off + k * 8 + 1, none⟩ = some (.int .i64 xo) ∧ u.cell? ⟨g, off + k * 8 + 2, none⟩ = some (.int .i64 xc) ∧ u.cell? ⟨g, off + k * 8 + 3, none⟩ = some (.int .i64 xn) ∧ u.cell? ⟨g, off + k * 8 + 4, none⟩ = some (.int .i64 xa) ∧ u.cell? ⟨g, off + k * 8 + 5, none⟩ = some (.int .i64 xb) ∧ u.cell? ⟨g, off + k * 8 + 6, none⟩ = some (.int .i64 xp) ∧ u.cell? ⟨g, off + k * 8 + 7, none⟩ = some (.int .i64 xd))) := Lib.hid (fun u hu => ncells8 (HE.out u hu))
        obtain ⟨Lq, hLq⟩ : ∃ Lq, qs.length = Lq := ⟨_, rfl⟩
        have HLq := Lib.hid hLq
        rw [hLq]
        have h16 : Lq ≤ 16 := by rw [← hLq]; exact HG.out.1
        have hwr : wrap64 ((Lq : Int) + 1) = Lq + 1 := by unfold wrap64; omega
        clear ho hg hbw hr hbl hx hR hLq
        go_upto_region 7 with fail
        have HBu := Lib.hid (below_drew (Below.refl wr.heap.size wr))
        refine wp_region_held_drew (S := fun u => (u.cell? ⟨w.heap.size, 0, none⟩ = some (.int .i64 m.epoch) ∧ u.cell? ⟨w.heap.size, 1, none⟩ = some (.slice ah Lh ch) ∧ u.cell? ⟨w.heap.size, 2, none⟩ = some (.slice ao Lo co) ∧ u.cell? ⟨w.heap.size, 3, none⟩ = some (.slice ap Lp cp) ∧ u.cell? ⟨w.heap.size, 4, none⟩ = some (.slice ab Lb cb)) ∧ u.cell? ⟨g, off + k * 8, none⟩ = some (.int .i64 xk) ∧ u.cell? ⟨g, off + k * 8 + 1, none⟩ = some (.int .i64 xo) ∧ u.cell? ⟨g, off + k * 8 + 2, none⟩ = some (.int .i64 xc) ∧ u.cell? ⟨g, off + k * 8 + 3, none⟩ = some (.int .i64 xn) ∧ u.cell? ⟨g, off + k * 8 + 4, none⟩ = some (.int .i64 xa) ∧ u.cell? ⟨g, off + k * 8 + 5, none⟩ = some (.int .i64 xb) ∧ u.cell? ⟨g, off + k * 8 + 6, none⟩ = some (.int .i64 xp) ∧ u.cell? ⟨g, off + k * 8 + 7, none⟩ = some (.int .i64 xd)) (by kernel_rfl) (⟨(HXw.out.keep HBu.out).cells, HE.out _ HBu.out⟩) (fun hHeld => ?_)
        generalize wr.drew = U1 at *
        refine wpAnyH_take (i := 0) (oi := { dst := some 25, op := Op.move (Operand.tmp 5), type := 78, pos := "law.go:88", after := #[], guard := none }) (v := ?_) rfl (by kernel_rfl) (by kernel_rfl) (by kernel_rfl) (fun _ _ _ h => h) (Or.inl ⟨by rfl, ?_⟩) hHeld ?_
        rotate_left 1
        · intro W hSw
          (try dsimp only at hSw)
          go_simp
          try with_reducible rfl
        try simp only [Act.put, List.setIfInBounds_toArray, List.set_cons_zero, List.set_cons_succ]
        refine wpAnyH_take (i := 1) (oi := { dst := some 26, op := Op.load 83 (Operand.tmp 3), type := 83, pos := "law.go:88", after := #[], guard := none }) (v := ?_) rfl (by kernel_rfl) (by kernel_rfl) (by kernel_rfl) (fun _ _ _ h => h) (Or.inl ⟨by rfl, ?_⟩) hHeld ?_
        rotate_left 1
        · intro W hSw
          (try dsimp only at hSw)
          go_simp
          try with_reducible rfl
        try simp only [Act.put, List.setIfInBounds_toArray, List.set_cons_zero, List.set_cons_succ]
        refine wpAnyH_take (i := 2) (oi := { dst := some 27, op := Op.move (Operand.tmp 0), type := 78, pos := "law.go:88", after := #[], guard := none }) (v := ?_) rfl (by kernel_rfl) (by kernel_rfl) (by kernel_rfl) (fun _ _ _ h => h) (Or.inl ⟨by rfl, ?_⟩) hHeld ?_
        rotate_left 1
        · intro W hSw
          (try dsimp only at hSw)
          go_simp
          try with_reducible rfl
        try simp only [Act.put, List.setIfInBounds_toArray, List.set_cons_zero, List.set_cons_succ]
        refine wpAnyH_take (i := 3) (oi := { dst := some 28, op := Op.move (Operand.tmp 6), type := 3, pos := "law.go:88", after := #[], guard := none }) (v := ?_) rfl (by kernel_rfl) (by kernel_rfl) (by kernel_rfl) (fun _ _ _ h => h) (Or.inl ⟨by rfl, ?_⟩) hHeld ?_
        rotate_left 1
        · intro W hSw
          (try dsimp only at hSw)
          go_simp
          try with_reducible rfl
        try simp only [Act.put, List.setIfInBounds_toArray, List.set_cons_zero, List.set_cons_succ]
        refine wpAnyH_take (i := 4) (oi := { dst := some 29, op := Op.indexAddr 78 (Operand.tmp 27) (Operand.tmp 28), type := 0, pos := "law.go:88", after := #[{ on := 2, ground := Ground.data }, { on := 3, ground := Ground.data }], guard := none }) (v := ?_) rfl (by kernel_rfl) (by kernel_rfl) (by kernel_rfl) (fun _ _ _ h => h) (Or.inl ⟨by rfl, ?_⟩) hHeld ?_
        rotate_left 1
        · intro W hSw
          (try dsimp only at hSw)
          go_simp
          try with_reducible rfl
        try simp only [Act.put, List.setIfInBounds_toArray, List.set_cons_zero, List.set_cons_succ]
        refine wpAnyH_take (i := 5) (oi := { dst := some 30, op := Op.load 87 (Operand.tmp 29), type := 87, pos := "law.go:88", after := #[{ on := 4, ground := Ground.data }], guard := none }) (v := ?_) rfl (by kernel_rfl) (by kernel_rfl) (by kernel_rfl) (fun _ _ _ h => h) (Or.inl ⟨by rfl, ?_⟩) hHeld ?_
        rotate_left 1
        · intro W hSw
          (try dsimp only at hSw)
          go_simp
          try with_reducible rfl
        try simp only [Act.put, List.setIfInBounds_toArray, List.set_cons_zero, List.set_cons_succ]
        refine wpAnyH_ready (rs := [6]) (by kernel_rfl) (by simp) ?_
        refine AllReadyH.cons (o := { dst := some 31, op := Op.call { callee := Callee.value (Operand.func 42), args := #[Operand.tmp 25, Operand.tmp 26, Operand.tmp 30], argTypes := #[78, 83, 87] }, type := 89, pos := "law.go:88", after := #[{ on := 0, ground := Ground.data }, { on := 1, ground := Ground.data }, { on := 5, ground := Ground.data }], guard := none }) rfl (fun K7 hK7 => ?_) ?_
        · go_simp
          refine (HAx.out _ _ (HBw.out.trans (HBu.out.mono HBw.out.size)) (by have := ((HO.out.below HBu.out).read nc_len); rwa [HLq.out] at this)).mono ?_
          rintro e V2 ⟨v2, rfl, ho, hb⟩
          obtain ⟨a2, c2, rfl⟩ := ho.slice
          have HO2 := Lib.hid (ho.mono (show V.heap.size ≤ _ from Nat.le_trans HBv.out.size HBu.out.size))
          have HB2 := Lib.hid (HBu.out.trans (hb.mono HBu.out.size))
          clear ho hb
          try dsimp only
          refine hK7.out _ _ (⟨(HXw.out.keep HB2.out).cells, HE.out _ HB2.out⟩) (fun hHeld => ?_)
          clear hK7 K7
          try simp only [Act.put, List.setIfInBounds_toArray, List.set_cons_zero, List.set_cons_succ]
          refine wpAnyH_take (i := 7) (oi := { dst := some 24, op := Op.move (Operand.tmp 31), type := 89, pos := "law.go:88", after := #[{ on := 6, ground := Ground.data }], guard := none }) (v := ?_) rfl (by kernel_rfl) (by kernel_rfl) (by kernel_rfl) (fun _ _ _ h => h) (Or.inl ⟨by rfl, ?_⟩) hHeld ?_
          rotate_left 1
          · intro W hSw
            (try dsimp only at hSw)
            go_simp
            try with_reducible rfl
          try simp only [Act.put, List.setIfInBounds_toArray, List.set_cons_zero, List.set_cons_succ]
          refine wpAnyH_take (i := 8) (oi := { dst := some 32, op := Op.extract (Operand.tmp 24) 0, type := 78, pos := "law.go:88", after := #[{ on := 7, ground := Ground.data }], guard := none }) (v := ?_) rfl (by kernel_rfl) (by kernel_rfl) (by kernel_rfl) (fun _ _ _ h => h) (Or.inl ⟨by rfl, ?_⟩) hHeld ?_
          rotate_left 1
          · intro W hSw
            (try dsimp only at hSw)
            go_simp
            try with_reducible rfl
          try simp only [Act.put, List.setIfInBounds_toArray, List.set_cons_zero, List.set_cons_succ]
          refine wpAnyH_take (i := 9) (oi := { dst := some 33, op := Op.extract (Operand.tmp 24) 1, type := 4, pos := "law.go:88", after := #[{ on := 7, ground := Ground.data }, { on := 10, ground := Ground.gcOnly Departure.lateStores }], guard := none }) (v := ?_) rfl (by kernel_rfl) (by kernel_rfl) (by kernel_rfl) (fun _ _ _ h => h) (Or.inl ⟨by rfl, ?_⟩) hHeld ?_
          rotate_left 1
          · intro W hSw
            (try dsimp only at hSw)
            go_simp
            try with_reducible rfl
          try simp only [Act.put, List.setIfInBounds_toArray, List.set_cons_zero, List.set_cons_succ]
          refine wpAnyH_take (i := 10) (oi := { dst := some 7, op := Op.assign (Operand.tmp 32), type := 78, pos := "law.go:88", after := #[{ on := 8, ground := Ground.data }, { on := 6, ground := Ground.chain }, { on := 0, ground := Ground.phase }, { on := 1, ground := Ground.phase }, { on := 2, ground := Ground.phase }, { on := 3, ground := Ground.phase }, { on := 4, ground := Ground.phase }, { on := 5, ground := Ground.phase }, { on := 6, ground := Ground.phase }, { on := 7, ground := Ground.phase }, { on := 8, ground := Ground.phase }, { on := 9, ground := Ground.textOnly Departure.lateStores }], guard := none }) (v := ?_) rfl (by kernel_rfl) (by kernel_rfl) (by kernel_rfl) (fun _ _ _ h => h) (Or.inl ⟨by rfl, ?_⟩) hHeld ?_
          rotate_left 1
          · intro W hSw
            (try dsimp only at hSw)
            go_simp
            try with_reducible rfl
          try simp only [Act.put, List.setIfInBounds_toArray, List.set_cons_zero, List.set_cons_succ]
          refine wpAnyH_take (i := 11) (oi := { dst := some 8, op := Op.assign (Operand.tmp 33), type := 4, pos := "law.go:88", after := #[{ on := 9, ground := Ground.data }, { on := 10, ground := Ground.chain }, { on := 0, ground := Ground.phase }, { on := 1, ground := Ground.phase }, { on := 2, ground := Ground.phase }, { on := 3, ground := Ground.phase }, { on := 4, ground := Ground.phase }, { on := 5, ground := Ground.phase }, { on := 6, ground := Ground.phase }, { on := 7, ground := Ground.phase }, { on := 8, ground := Ground.phase }, { on := 9, ground := Ground.phase }, { on := 10, ground := Ground.phase }], guard := none }) (v := ?_) rfl (by kernel_rfl) (by kernel_rfl) (by kernel_rfl) (fun _ _ _ h => h) (Or.inl ⟨by rfl, ?_⟩) hHeld ?_
          rotate_left 1
          · intro W hSw
            (try dsimp only at hSw)
            go_simp
            try with_reducible rfl
          try simp only [Act.put, List.setIfInBounds_toArray, List.set_cons_zero, List.set_cons_succ]
          refine wpAnyH_done (by kernel_rfl) ?_ _
          clear hHeld
          obtain ⟨ys, b⟩ := R
          simp only at HGn HO2 ⊢
          have hgn := HGn.out
          obtain ⟨Ly, hLy⟩ : ∃ Ly, ys.length = Ly := ⟨_, rfl⟩
          have HLy := Lib.hid hLy
          have hgl := hgn.2
          rw [HLq.out, hLy] at hgl
          rw [hLy]
          clear hgn hLy
          cases b with
          | true =>
            obtain rfl : Ly = Lq + 1 := hgl
            go_upto_region 6 with fail
            go_wp2
            go_roundw
            case rel => exact ⟨k + 1, ys, by omega, by go_num, by rw [← HLy.out]; exact HO2.out, HGn.out.1, HBv.out.trans (HB2.out.mono HBv.out.size)⟩
            case measure => simp [intOf]; omega
          | false =>
            obtain rfl : Ly = Lq := hgl
            go_upto_region 6 with fail
            go_wp2
            go_roundw
            case rel => exact ⟨k + 1, ys, by omega, by go_num, by rw [← HLy.out]; exact HO2.out, HGn.out.1, HBv.out.trans (HB2.out.mono HBv.out.size)⟩
            case measure => simp [intOf]; omega
        exact AllReadyH.nil
      · obtain rfl : k = L := by omega
        have HL16 := HG.out.1
        clear ho hg hbw
        obtain ⟨Lq, hLq⟩ : ∃ Lq, qs.length = Lq := ⟨_, rfl⟩
        have HLq := Lib.hid hLq
        rw [hLq] at HL16 ⊢
        clear hLq
        obtain ⟨wo, rfl⟩ : ∃ Z, Z = wr := ⟨_, rfl⟩
        go_upto_region 12 with fail
        go_loopw [9, 10] (fun v9 v10 wq => ∃ i : Nat, i ≤ Lq ∧ v9 = .int .i64 i ∧ Below wo.heap.size wo wq) (fun i _ _ => Lq - (intOf i).toNat)
        case atStart => exact ⟨0, by omega, rfl, Below.refl _ _⟩
        case round =>
          obtain ⟨i, hi, rfl, hb2⟩ := hrel
          obtain ⟨wq, rfl⟩ : ∃ Z, Z = wr := ⟨_, rfl⟩
          have HB2 := Lib.hid hb2
          clear hb2
          have hi0 : (0 : Int) ≤ i := by omega
          by_cases hlt2 : i < Lq
          · have hlt2' : (i : Int) < Lq := by omega
            have hiq : i < qs.length := by rw [HLq.out]; exact hlt2
            have HSq : Hid (∀ u, Below wo.heap.size wo u → Sl nc 8 u (.slice a5 Lq c5) qs) := Lib.hid (fun u hu => by have := (HO.out.read nc_len).keep hu; rwa [HLq.out] at this)
            obtain ⟨g, off, rfl, hbl, hr⟩ := sl_elem (HSq.out _ (Below.refl _ _)) i hiq
            have HE : Hid (∀ u, Below wo.heap.size wo u → u.rangeAt g (off + i * 8) (nc qs[i])) := Lib.hid (fun u hu => range_keep hr hbl hu)
            have HEj : Hid (∀ j (hj : j < qs.length) u, Below wo.heap.size wo u → u.rangeAt g (off + j * 8) (nc qs[j])) := Lib.hid (fun j hj u hu => by
              obtain ⟨g2, off2, e2, hbl2, hr2⟩ := sl_elem (HSq.out _ (Below.refl _ _)) j hj
              cases e2
              exact range_keep hr2 hbl2 hu)
            have HNe := Lib.hid (fun j (hj : j < qs.length) (h : j < i) => HG.out.2.2 i j hiq hj h)
            have HUx := Lib.hid (fun u (hu : Below w.heap.size w u) => HUs.out qs[i] u (HG.out.2.1 _ (List.getElem_mem hiq)) hu)
            obtain ⟨x, hx⟩ : ∃ x, qs[i] = x := ⟨_, rfl⟩
            rw [hx] at HE HNe HUx
            obtain ⟨xk, xo, xc, xn, ⟨xa, xb, xp, xd⟩⟩ := x
            unfold IncV.val at HUx
            simp only at HUx
            have HE : Hid (∀ u, Below wo.heap.size wo u → (u.cell? ⟨g, off + i * 8, none⟩ = some (.int .i64 xk) ∧ u.cell? ⟨g, off + i * 8 + 1, none⟩ = some (.int .i64 xo) ∧ u.cell? ⟨g, off + i * 8 + 2, none⟩ = some (.int .i64 xc) ∧ u.cell? ⟨g, off + i * 8 + 3, none⟩ = some (.int .i64 xn) ∧ u.cell? ⟨g, off + i * 8 + 4, none⟩ = some (.int .i64 xa) ∧ u.cell? ⟨g, off + i * 8 + 5, none⟩ = some (.int .i64 xb) ∧ u.cell? ⟨g, off + i * 8 + 6, none⟩ = some (.int .i64 xp) ∧ u.cell? ⟨g, off + i * 8 + 7, none⟩ = some (.int .i64 xd))) := Lib.hid (fun u hu => ncells8 (HE.out u hu))
            clear hr hbl hx
            go_upto_region 15 with fail
            go_loopw [10] (fun v10 wp => ∃ j : Nat, j ≤ i ∧ v10 = .int .i64 j ∧ Below wo.heap.size wo wp) (fun j _ => i - (intOf j).toNat)
            case atStart => exact ⟨0, by omega, rfl, HB2.out⟩
            case round =>
              obtain ⟨j, hj, rfl, hb3⟩ := hrel
              have HB3 := Lib.hid hb3
              clear hb3
              have hj0 : (0 : Int) ≤ j := by omega
              by_cases hlt3 : j < i
              · have hlt3' : (j : Int) < i := by omega
                have hjL : (j : Int) < Lq := by omega
                have hjq : j < qs.length := by rw [HLq.out]; omega
                have HF := Lib.hid (HEj.out j hjq)
                have hne := HNe.out j hjq hlt3
                obtain ⟨y, hy⟩ : ∃ y, qs[j] = y := ⟨_, rfl⟩
                rw [hy] at HF hne
                have hQ := HQe.out (⟨xk, xo, xc, xn, ⟨xa, xb, xp, xd⟩⟩ : IncV) y
                rw [decide_eq_false hne] at hQ
                obtain ⟨yk, yo, yc, yn, ⟨ya, yb, yp, yd⟩⟩ := y
                unfold IncV.val at hQ
                simp only at hQ
                have HB4 := Lib.hid (below_drew HB3.out)
                have HFj := Lib.hid (ncells8 (HF.out _ HB4.out))
                simp only at HFj
                clear hy hne HF
                go_upto_region 17 with fail
                go_region_held3 (fun u => (u.cell? ⟨g, off + i * 8, none⟩ = some (.int .i64 xk) ∧ u.cell? ⟨g, off + i * 8 + 1, none⟩ = some (.int .i64 xo) ∧ u.cell? ⟨g, off + i * 8 + 2, none⟩ = some (.int .i64 xc) ∧ u.cell? ⟨g, off + i * 8 + 3, none⟩ = some (.int .i64 xn) ∧ u.cell? ⟨g, off + i * 8 + 4, none⟩ = some (.int .i64 xa) ∧ u.cell? ⟨g, off + i * 8 + 5, none⟩ = some (.int .i64 xb) ∧ u.cell? ⟨g, off + i * 8 + 6, none⟩ = some (.int .i64 xp) ∧ u.cell? ⟨g, off + i * 8 + 7, none⟩ = some (.int .i64 xd)) ∧ u.cell? ⟨g, off + j * 8, none⟩ = some (.int .i64 yk) ∧ u.cell? ⟨g, off + j * 8 + 1, none⟩ = some (.int .i64 yo) ∧ u.cell? ⟨g, off + j * 8 + 2, none⟩ = some (.int .i64 yc) ∧ u.cell? ⟨g, off + j * 8 + 3, none⟩ = some (.int .i64 yn) ∧ u.cell? ⟨g, off + j * 8 + 4, none⟩ = some (.int .i64 ya) ∧ u.cell? ⟨g, off + j * 8 + 5, none⟩ = some (.int .i64 yb) ∧ u.cell? ⟨g, off + j * 8 + 6, none⟩ = some (.int .i64 yp) ∧ u.cell? ⟨g, off + j * 8 + 7, none⟩ = some (.int .i64 yd))
                  (first | exact ⟨HE.out _ HB4.out, HFj.out⟩)
                  (first | fail)
                go_wp2
                go_roundw
                case rel => exact ⟨j + 1, by omega, by go_num, HB4.out⟩
                case measure => simp [intOf]; omega
              · obtain rfl : j = i := by omega
                have HB4 := Lib.hid (below_drew HB3.out)
                have HXd := Lib.hid (HXw.out.keep HB4.out)
                clear hlt3 hj
                go_upto_region 19 with fail
                go_region_held3 (fun u => (u.cell? ⟨w.heap.size, 0, none⟩ = some (.int .i64 m.epoch) ∧ u.cell? ⟨w.heap.size, 1, none⟩ = some (.slice ah Lh ch) ∧ u.cell? ⟨w.heap.size, 2, none⟩ = some (.slice ao Lo co) ∧ u.cell? ⟨w.heap.size, 3, none⟩ = some (.slice ap Lp cp) ∧ u.cell? ⟨w.heap.size, 4, none⟩ = some (.slice ab Lb cb)) ∧ u.cell? ⟨g, off + j * 8, none⟩ = some (.int .i64 xk) ∧ u.cell? ⟨g, off + j * 8 + 1, none⟩ = some (.int .i64 xo) ∧ u.cell? ⟨g, off + j * 8 + 2, none⟩ = some (.int .i64 xc) ∧ u.cell? ⟨g, off + j * 8 + 3, none⟩ = some (.int .i64 xn) ∧ u.cell? ⟨g, off + j * 8 + 4, none⟩ = some (.int .i64 xa) ∧ u.cell? ⟨g, off + j * 8 + 5, none⟩ = some (.int .i64 xb) ∧ u.cell? ⟨g, off + j * 8 + 6, none⟩ = some (.int .i64 xp) ∧ u.cell? ⟨g, off + j * 8 + 7, none⟩ = some (.int .i64 xd))
                  (first | exact ⟨HXd.out.cells, HE.out _ HB4.out⟩ | exact ⟨HX5.out.cells, HE.out _ HB5.out⟩)
                  (first | (go_at_call 46; refine (HUx.out _ (HBw.out.trans (HB4.out.mono HBw.out.size))).mono ?_; rintro e V5 ⟨rfl, hb⟩; have HX5 := Lib.hid (HXd.out.keep hb); have HB5 := Lib.hid (HB4.out.trans (hb.mono HB4.out.size)); clear hb))
                go_wp2
                go_roundw
                case rel => exact ⟨j + 1, by omega, by go_num, HB5.out⟩
                case measure => simp [intOf]; omega
          · obtain rfl : i = Lq := by omega
            clear hlt2 hi hi0
            have HXq := Lib.hid (HXw.out.keep HB2.out)
            have HOq := Lib.hid (HO.out.below HB2.out)
            have HBq := Lib.hid (HBw.out.trans (HB2.out.mono HBw.out.size))
            obtain ⟨l0, l1, l2, l3, l4⟩ := HXq.out.cells
            have HFq : Hid (∀ u vq, Below w.heap.size w u → Own nc 8 87 u V.heap.size vq qs → Calls Try.prog 47 #[vq, _] u (FirstS (firstI qs m) u)) := Lib.hid (fun u vq hu ho => HFi.out qs vq V.heap.size u HG.out hu ho)
            have HOq : Hid (Own nc 8 87 _ V.heap.size (.slice a5 i c5) qs) := Lib.hid (by have := HOq.out; rwa [HLq.out] at this)
            unfold FirstS at HFq
            cases qs with
            | nil =>
              obtain rfl : i = 0 := HLq.out.symm
              simp only [firstI_nil] at HFq
              unfold zeroI IncV.val at HFq
              simp only at HFq
              go_upto_region 22 with (go_at_call 47; refine (HFq.out _ _ HBq.out HOq.out).mono ?_; rintro e V6 ⟨v6, rfl, ho, hb⟩; obtain ⟨a6, c6, rfl⟩ := ho.slice; have HB6 := Lib.hid (HBq.out.trans (hb.mono HBq.out.size)); clear ho hb l0 l1 l2 l3 l4)
              have hb7 := below_new V6 (.cells #[.int .i64 0, .int .i64 0, .int .i64 0, .int .i64 0, .int .i64 0, .int .i64 0, .int .i64 0, .int .i64 0] 87)
              have HB6 := Lib.hid (HB6.out.trans (hb7.mono HB6.out.size))
              clear hb7
              generalize V6.alloc (.cells #[.int .i64 0, .int .i64 0, .int .i64 0, .int .i64 0, .int .i64 0, .int .i64 0, .int .i64 0, .int .i64 0] 87) = V7 at HB6 ⊢
              have HB6 := Lib.hid (below_drew HB6.out)
              refine wp_region_held_drew (S := fun _ => True) (by kernel_rfl) (trivial) (fun hHeld => ?_)
              generalize V7.drew = U1 at *
              refine wpAnyH_take (i := 0) (oi := { dst := some 89, op := Op.move (Operand.tmp 5), type := 78, pos := "law.go:105", after := #[], guard := none }) (v := ?_) rfl (by kernel_rfl) (by kernel_rfl) (by kernel_rfl) (fun _ _ _ h => h) (Or.inl ⟨by rfl, ?_⟩) hHeld ?_
              rotate_left 1
              · intro W hSw
                (try dsimp only at hSw)
                go_simp
                try with_reducible rfl
              try simp only [Act.put, List.setIfInBounds_toArray, List.set_cons_zero, List.set_cons_succ]
              refine wpAnyH_take (i := 1) (oi := { dst := some 90, op := Op.call { callee := Callee.builtin Builtin.len, args := #[Operand.tmp 89], argTypes := #[78] }, type := 3, pos := "law.go:105", after := #[{ on := 0, ground := Ground.data }], guard := none }) (v := ?_) rfl (by kernel_rfl) (by kernel_rfl) (by kernel_rfl) (fun _ _ _ h => h) (Or.inl ⟨by rfl, ?_⟩) hHeld ?_
              rotate_left 1
              · intro W hSw
                (try dsimp only at hSw)
                go_simp
                try with_reducible rfl
              try simp only [Act.put, List.setIfInBounds_toArray, List.set_cons_zero, List.set_cons_succ]
              refine wpAnyH_take (i := 2) (oi := { dst := some 91, op := Op.binOp BinOp.leq 3 (Operand.tmp 90) (Operand.const (Value.int IntKind.i64 16)) 3, type := 4, pos := "law.go:105", after := #[{ on := 1, ground := Ground.data }], guard := none }) (v := ?_) rfl (by kernel_rfl) (by kernel_rfl) (by kernel_rfl) (fun _ _ _ h => h) (Or.inl ⟨by rfl, ?_⟩) hHeld ?_
              rotate_left 1
              · intro W hSw
                (try dsimp only at hSw)
                go_simp
                try with_reducible rfl
              try simp only [Act.put, List.setIfInBounds_toArray, List.set_cons_zero, List.set_cons_succ]
              refine wpAnyH_take (i := 3) (oi := { dst := some 92, op := Op.move (Operand.tmp 91), type := 4, pos := "law.go:105", after := #[{ on := 2, ground := Ground.data }], guard := none }) (v := ?_) rfl (by kernel_rfl) (by kernel_rfl) (by kernel_rfl) (fun _ _ _ h => h) (Or.inl ⟨by rfl, ?_⟩) hHeld ?_
              rotate_left 1
              · intro W hSw
                (try dsimp only at hSw)
                go_simp
                try with_reducible rfl
              try simp only [Act.put, List.setIfInBounds_toArray, List.set_cons_zero, List.set_cons_succ]
              refine wpAnyH_take (i := 4) (oi := { dst := some 93, op := Op.move (Operand.tmp 13), type := 4, pos := "law.go:105", after := #[{ on := 3, ground := Ground.guard }], guard := some (3, true) }) (v := ?_) rfl (by kernel_rfl) (by kernel_rfl) (by kernel_rfl) (fun _ _ _ h => h) (Or.inl ⟨by rfl, ?_⟩) hHeld ?_
              rotate_left 1
              · intro W hSw
                (try dsimp only at hSw)
                go_simp
                try with_reducible rfl
              try simp only [Act.put, List.setIfInBounds_toArray, List.set_cons_zero, List.set_cons_succ]
              refine wpAnyH_take (i := 5) (oi := { dst := some 94, op := Op.move (Operand.tmp 5), type := 78, pos := "law.go:105", after := #[{ on := 3, ground := Ground.guard }], guard := some (3, true) }) (v := ?_) rfl (by kernel_rfl) (by kernel_rfl) (by kernel_rfl) (fun _ _ _ h => h) (Or.inl ⟨by rfl, ?_⟩) hHeld ?_
              rotate_left 1
              · intro W hSw
                (try dsimp only at hSw)
                go_simp
                try with_reducible rfl
              try simp only [Act.put, List.setIfInBounds_toArray, List.set_cons_zero, List.set_cons_succ]
              refine wpAnyH_take (i := 6) (oi := { dst := some 95, op := Op.call { callee := Callee.builtin Builtin.len, args := #[Operand.tmp 94], argTypes := #[78] }, type := 3, pos := "law.go:105", after := #[{ on := 5, ground := Ground.data }, { on := 3, ground := Ground.guard }], guard := some (3, true) }) (v := ?_) rfl (by kernel_rfl) (by kernel_rfl) (by kernel_rfl) (fun _ _ _ h => h) (Or.inl ⟨by rfl, ?_⟩) hHeld ?_
              rotate_left 1
              · intro W hSw
                (try dsimp only at hSw)
                go_simp
                try with_reducible rfl
              try simp only [Act.put, List.setIfInBounds_toArray, List.set_cons_zero, List.set_cons_succ]
              refine wpAnyH_take (i := 7) (oi := { dst := some 96, op := Op.binOp BinOp.gtr 3 (Operand.tmp 95) (Operand.const (Value.int IntKind.i64 0)) 3, type := 4, pos := "law.go:105", after := #[{ on := 6, ground := Ground.data }, { on := 3, ground := Ground.guard }], guard := some (3, true) }) (v := ?_) rfl (by kernel_rfl) (by kernel_rfl) (by kernel_rfl) (fun _ _ _ h => h) (Or.inl ⟨by rfl, ?_⟩) hHeld ?_
              rotate_left 1
              · intro W hSw
                (try dsimp only at hSw)
                go_simp
                try with_reducible rfl
              try simp only [Act.put, List.setIfInBounds_toArray, List.set_cons_zero, List.set_cons_succ]
              refine wpAnyH_take (i := 8) (oi := { dst := some 97, op := Op.binOp BinOp.eql 4 (Operand.tmp 93) (Operand.tmp 96) 4, type := 4, pos := "law.go:105", after := #[{ on := 4, ground := Ground.data }, { on := 7, ground := Ground.data }, { on := 3, ground := Ground.guard }], guard := some (3, true) }) (v := ?_) rfl (by kernel_rfl) (by kernel_rfl) (by kernel_rfl) (fun _ _ _ h => h) (Or.inl ⟨by rfl, ?_⟩) hHeld ?_
              rotate_left 1
              · intro W hSw
                (try dsimp only at hSw)
                go_simp
                try with_reducible rfl
              try simp only [Act.put, List.setIfInBounds_toArray, List.set_cons_zero, List.set_cons_succ]
              refine wpAnyH_take (i := 9) (oi := { dst := some 98, op := Op.pick (Operand.tmp 92) (Operand.tmp 97) (Operand.const (Value.bool false)), type := 4, pos := "law.go:105", after := #[{ on := 3, ground := Ground.data }, { on := 8, ground := Ground.data }], guard := none }) (v := ?_) rfl (by kernel_rfl) (by kernel_rfl) (by kernel_rfl) (fun _ _ _ h => h) (Or.inl ⟨by rfl, ?_⟩) hHeld ?_
              rotate_left 1
              · intro W hSw
                (try dsimp only at hSw)
                go_simp
                try with_reducible rfl
              try simp only [Act.put, List.setIfInBounds_toArray, List.set_cons_zero, List.set_cons_succ]
              refine wpAnyH_take (i := 10) (oi := { dst := some 99, op := Op.move (Operand.tmp 98), type := 4, pos := "law.go:105", after := #[{ on := 9, ground := Ground.data }, { on := 3, ground := Ground.chain }], guard := none }) (v := ?_) rfl (by kernel_rfl) (by kernel_rfl) (by kernel_rfl) (fun _ _ _ h => h) (Or.inl ⟨by rfl, ?_⟩) hHeld ?_
              rotate_left 1
              · intro W hSw
                (try dsimp only at hSw)
                go_simp
                try with_reducible rfl
              try simp only [Act.put, List.setIfInBounds_toArray, List.set_cons_zero, List.set_cons_succ]
              refine wpAnyH_take (i := 11) (oi := { dst := some 100, op := Op.move (Operand.tmp 13), type := 4, pos := "law.go:105", after := #[{ on := 10, ground := Ground.guard }], guard := some (10, true) }) (v := ?_) rfl (by kernel_rfl) (by kernel_rfl) (by kernel_rfl) (fun _ _ _ h => h) (Or.inl ⟨by rfl, ?_⟩) hHeld ?_
              rotate_left 1
              · intro W hSw
                (try dsimp only at hSw)
                go_simp
                try with_reducible rfl
              try simp only [Act.put, List.setIfInBounds_toArray, List.set_cons_zero, List.set_cons_succ]
              refine wpAnyH_take (i := 12) (oi := { dst := some 101, op := Op.unOp UnOp.not 4 (Operand.tmp 100), type := 4, pos := "law.go:105", after := #[{ on := 11, ground := Ground.data }, { on := 10, ground := Ground.guard }], guard := some (10, true) }) (v := ?_) rfl (by kernel_rfl) (by kernel_rfl) (by kernel_rfl) (fun _ _ _ h => h) (Or.inl ⟨by rfl, ?_⟩) hHeld ?_
              rotate_left 1
              · intro W hSw
                (try dsimp only at hSw)
                go_simp
                try with_reducible rfl
              try simp only [Act.put, List.setIfInBounds_toArray, List.set_cons_zero, List.set_cons_succ]
              refine wpAnyH_take (i := 13) (oi := { dst := some 102, op := Op.move (Operand.tmp 101), type := 4, pos := "law.go:105", after := #[{ on := 12, ground := Ground.data }, { on := 10, ground := Ground.chain }, { on := 10, ground := Ground.guard }], guard := some (10, true) }) (v := ?_) rfl (by kernel_rfl) (by kernel_rfl) (by kernel_rfl) (fun _ _ _ h => h) (Or.inl ⟨by rfl, ?_⟩) hHeld ?_
              rotate_left 1
              · intro W hSw
                (try dsimp only at hSw)
                go_simp
                try with_reducible rfl
              try simp only [Act.put, List.setIfInBounds_toArray, List.set_cons_zero, List.set_cons_succ]
              refine wpAnyH_take (i := 14) (oi := { dst := some 103, op := Op.load 87 (Operand.tmp 11), type := 87, pos := "law.go:105", after := #[{ on := 13, ground := Ground.guard }], guard := some (13, false) }) (v := undef) rfl (by kernel_rfl) (by kernel_rfl) (by kernel_rfl) (fun _ _ _ h => h) (Or.inr ⟨by rfl, rfl⟩) hHeld ?_
              try simp only [Act.put, List.setIfInBounds_toArray, List.set_cons_zero, List.set_cons_succ]
              refine wpAnyH_take (i := 15) (oi := { dst := some 104, op := Op.move (Operand.tmp 5), type := 78, pos := "law.go:105", after := #[{ on := 13, ground := Ground.guard }], guard := some (13, false) }) (v := undef) rfl (by kernel_rfl) (by kernel_rfl) (by kernel_rfl) (fun _ _ _ h => h) (Or.inr ⟨by rfl, rfl⟩) hHeld ?_
              try simp only [Act.put, List.setIfInBounds_toArray, List.set_cons_zero, List.set_cons_succ]
              refine wpAnyH_take (i := 16) (oi := { dst := some 105, op := Op.indexAddr 78 (Operand.tmp 104) (Operand.const (Value.int IntKind.i64 0)), type := 0, pos := "law.go:105", after := #[{ on := 15, ground := Ground.data }, { on := 13, ground := Ground.guard }], guard := some (13, false) }) (v := undef) rfl (by kernel_rfl) (by kernel_rfl) (by kernel_rfl) (fun _ _ _ h => h) (Or.inr ⟨by rfl, rfl⟩) hHeld ?_
              try simp only [Act.put, List.setIfInBounds_toArray, List.set_cons_zero, List.set_cons_succ]
              refine wpAnyH_take (i := 17) (oi := { dst := some 106, op := Op.load 87 (Operand.tmp 105), type := 87, pos := "law.go:105", after := #[{ on := 16, ground := Ground.data }, { on := 13, ground := Ground.guard }], guard := some (13, false) }) (v := undef) rfl (by kernel_rfl) (by kernel_rfl) (by kernel_rfl) (fun _ _ _ h => h) (Or.inr ⟨by rfl, rfl⟩) hHeld ?_
              try simp only [Act.put, List.setIfInBounds_toArray, List.set_cons_zero, List.set_cons_succ]
              refine wpAnyH_take (i := 18) (oi := { dst := some 107, op := Op.binOp BinOp.eql 87 (Operand.tmp 103) (Operand.tmp 106) 87, type := 4, pos := "law.go:105", after := #[{ on := 14, ground := Ground.data }, { on := 17, ground := Ground.data }, { on := 13, ground := Ground.guard }], guard := some (13, false) }) (v := undef) rfl (by kernel_rfl) (by kernel_rfl) (by kernel_rfl) (fun _ _ _ h => h) (Or.inr ⟨by rfl, rfl⟩) hHeld ?_
              try simp only [Act.put, List.setIfInBounds_toArray, List.set_cons_zero, List.set_cons_succ]
              refine wpAnyH_take (i := 19) (oi := { dst := some 108, op := Op.move (Operand.tmp 107), type := 4, pos := "law.go:105", after := #[{ on := 18, ground := Ground.data }, { on := 13, ground := Ground.chain }, { on := 13, ground := Ground.guard }], guard := some (13, false) }) (v := undef) rfl (by kernel_rfl) (by kernel_rfl) (by kernel_rfl) (fun _ _ _ h => h) (Or.inr ⟨by rfl, rfl⟩) hHeld ?_
              try simp only [Act.put, List.setIfInBounds_toArray, List.set_cons_zero, List.set_cons_succ]
              refine wpAnyH_take (i := 20) (oi := { dst := some 109, op := Op.move (Operand.tmp 12), type := 78, pos := "law.go:105", after := #[{ on := 19, ground := Ground.guard }], guard := some (19, true) }) (v := undef) rfl (by kernel_rfl) (by kernel_rfl) (by kernel_rfl) (fun _ _ _ h => h) (Or.inr ⟨by rfl, rfl⟩) hHeld ?_
              try simp only [Act.put, List.setIfInBounds_toArray, List.set_cons_zero, List.set_cons_succ]
              refine wpAnyH_take (i := 21) (oi := { dst := some 110, op := Op.call { callee := Callee.builtin Builtin.len, args := #[Operand.tmp 109], argTypes := #[78] }, type := 3, pos := "law.go:105", after := #[{ on := 20, ground := Ground.data }, { on := 19, ground := Ground.guard }], guard := some (19, true) }) (v := undef) rfl (by kernel_rfl) (by kernel_rfl) (by kernel_rfl) (fun _ _ _ h => h) (Or.inr ⟨by rfl, rfl⟩) hHeld ?_
              try simp only [Act.put, List.setIfInBounds_toArray, List.set_cons_zero, List.set_cons_succ]
              refine wpAnyH_take (i := 22) (oi := { dst := some 111, op := Op.move (Operand.tmp 5), type := 78, pos := "law.go:105", after := #[{ on := 19, ground := Ground.guard }], guard := some (19, true) }) (v := undef) rfl (by kernel_rfl) (by kernel_rfl) (by kernel_rfl) (fun _ _ _ h => h) (Or.inr ⟨by rfl, rfl⟩) hHeld ?_
              try simp only [Act.put, List.setIfInBounds_toArray, List.set_cons_zero, List.set_cons_succ]
              refine wpAnyH_take (i := 23) (oi := { dst := some 112, op := Op.call { callee := Callee.builtin Builtin.len, args := #[Operand.tmp 111], argTypes := #[78] }, type := 3, pos := "law.go:105", after := #[{ on := 22, ground := Ground.data }, { on := 19, ground := Ground.guard }], guard := some (19, true) }) (v := undef) rfl (by kernel_rfl) (by kernel_rfl) (by kernel_rfl) (fun _ _ _ h => h) (Or.inr ⟨by rfl, rfl⟩) hHeld ?_
              try simp only [Act.put, List.setIfInBounds_toArray, List.set_cons_zero, List.set_cons_succ]
              refine wpAnyH_take (i := 24) (oi := { dst := some 113, op := Op.binOp BinOp.sub 3 (Operand.tmp 112) (Operand.const (Value.int IntKind.i64 1)) 3, type := 3, pos := "law.go:105", after := #[{ on := 23, ground := Ground.data }, { on := 19, ground := Ground.guard }], guard := some (19, true) }) (v := undef) rfl (by kernel_rfl) (by kernel_rfl) (by kernel_rfl) (fun _ _ _ h => h) (Or.inr ⟨by rfl, rfl⟩) hHeld ?_
              try simp only [Act.put, List.setIfInBounds_toArray, List.set_cons_zero, List.set_cons_succ]
              refine wpAnyH_take (i := 25) (oi := { dst := some 114, op := Op.binOp BinOp.eql 3 (Operand.tmp 110) (Operand.tmp 113) 3, type := 4, pos := "law.go:105", after := #[{ on := 21, ground := Ground.data }, { on := 24, ground := Ground.data }, { on := 19, ground := Ground.guard }], guard := some (19, true) }) (v := undef) rfl (by kernel_rfl) (by kernel_rfl) (by kernel_rfl) (fun _ _ _ h => h) (Or.inr ⟨by rfl, rfl⟩) hHeld ?_
              try simp only [Act.put, List.setIfInBounds_toArray, List.set_cons_zero, List.set_cons_succ]
              refine wpAnyH_take (i := 26) (oi := { dst := some 115, op := Op.pick (Operand.tmp 108) (Operand.tmp 114) (Operand.const (Value.bool false)), type := 4, pos := "law.go:105", after := #[{ on := 19, ground := Ground.data }, { on := 25, ground := Ground.data }, { on := 13, ground := Ground.guard }], guard := some (13, false) }) (v := undef) rfl (by kernel_rfl) (by kernel_rfl) (by kernel_rfl) (fun _ _ _ h => h) (Or.inr ⟨by rfl, rfl⟩) hHeld ?_
              try simp only [Act.put, List.setIfInBounds_toArray, List.set_cons_zero, List.set_cons_succ]
              refine wpAnyH_take (i := 27) (oi := { dst := some 116, op := Op.pick (Operand.tmp 102) (Operand.const (Value.bool true)) (Operand.tmp 115), type := 4, pos := "law.go:105", after := #[{ on := 13, ground := Ground.data }, { on := 26, ground := Ground.data }, { on := 10, ground := Ground.guard }], guard := some (10, true) }) (v := ?_) rfl (by kernel_rfl) (by kernel_rfl) (by kernel_rfl) (fun _ _ _ h => h) (Or.inl ⟨by rfl, ?_⟩) hHeld ?_
              rotate_left 1
              · intro W hSw
                (try dsimp only at hSw)
                go_simp
                try with_reducible rfl
              try simp only [Act.put, List.setIfInBounds_toArray, List.set_cons_zero, List.set_cons_succ]
              refine wpAnyH_take (i := 28) (oi := { dst := some 117, op := Op.pick (Operand.tmp 99) (Operand.tmp 116) (Operand.const (Value.bool false)), type := 4, pos := "law.go:105", after := #[{ on := 10, ground := Ground.data }, { on := 27, ground := Ground.data }], guard := none }) (v := ?_) rfl (by kernel_rfl) (by kernel_rfl) (by kernel_rfl) (fun _ _ _ h => h) (Or.inl ⟨by rfl, ?_⟩) hHeld ?_
              rotate_left 1
              · intro W hSw
                (try dsimp only at hSw)
                go_simp
                try with_reducible rfl
              try simp only [Act.put, List.setIfInBounds_toArray, List.set_cons_zero, List.set_cons_succ]
              refine wpAnyH_take (i := 29) (oi := { dst := some 118, op := Op.move (Operand.tmp 117), type := 4, pos := "law.go:105", after := #[{ on := 28, ground := Ground.data }, { on := 19, ground := Ground.chain }], guard := none }) (v := ?_) rfl (by kernel_rfl) (by kernel_rfl) (by kernel_rfl) (fun _ _ _ h => h) (Or.inl ⟨by rfl, ?_⟩) hHeld ?_
              rotate_left 1
              · intro W hSw
                (try dsimp only at hSw)
                go_simp
                try with_reducible rfl
              try simp only [Act.put, List.setIfInBounds_toArray, List.set_cons_zero, List.set_cons_succ]
              refine wpAnyH_ready (rs := [30]) (by kernel_rfl) (by simp) ?_
              refine AllReadyH.cons (o := { dst := some 119, op := Op.call { callee := Callee.value (Operand.func 41), args := #[], argTypes := #[] }, type := 4, pos := "law.go:105", after := #[{ on := 29, ground := Ground.chain }, { on := 29, ground := Ground.guard }], guard := some (29, true) }) rfl (fun K7 hK7 => ?_) ?_
              · go_simp
                refine (HAw.out _).mono ?_
                rintro e V8 ⟨rfl, hb⟩
                have HB6 := Lib.hid (HB6.out.trans (hb.mono HB6.out.size))
                try dsimp only
                refine hK7.out _ _ (trivial) (fun hHeld => ?_)
                clear hK7 K7
                try simp only [Act.put, List.setIfInBounds_toArray, List.set_cons_zero, List.set_cons_succ]
                refine wpAnyH_take (i := 31) (oi := { dst := some 120, op := Op.pick (Operand.tmp 118) (Operand.tmp 119) (Operand.const (Value.bool false)), type := 4, pos := "law.go:105", after := #[{ on := 29, ground := Ground.data }, { on := 30, ground := Ground.data }], guard := none }) (v := ?_) rfl (by kernel_rfl) (by kernel_rfl) (by kernel_rfl) (fun _ _ _ h => h) (Or.inl ⟨by rfl, ?_⟩) hHeld ?_
                rotate_left 1
                · intro W hSw
                  (try dsimp only at hSw)
                  go_simp
                  try with_reducible rfl
                try simp only [Act.put, List.setIfInBounds_toArray, List.set_cons_zero, List.set_cons_succ]
                refine wpAnyH_take (i := 32) (oi := { dst := some 4, op := Op.assign (Operand.tmp 120), type := 4, pos := "law.go:105", after := #[{ on := 31, ground := Ground.data }, { on := 30, ground := Ground.chain }, { on := 0, ground := Ground.phase }, { on := 1, ground := Ground.phase }, { on := 2, ground := Ground.phase }, { on := 3, ground := Ground.phase }, { on := 4, ground := Ground.phase }, { on := 5, ground := Ground.phase }, { on := 6, ground := Ground.phase }, { on := 7, ground := Ground.phase }, { on := 8, ground := Ground.phase }, { on := 9, ground := Ground.phase }, { on := 10, ground := Ground.phase }, { on := 11, ground := Ground.phase }, { on := 12, ground := Ground.phase }, { on := 13, ground := Ground.phase }, { on := 14, ground := Ground.phase }, { on := 15, ground := Ground.phase }, { on := 16, ground := Ground.phase }, { on := 17, ground := Ground.phase }, { on := 18, ground := Ground.phase }, { on := 19, ground := Ground.phase }, { on := 20, ground := Ground.phase }, { on := 21, ground := Ground.phase }, { on := 22, ground := Ground.phase }, { on := 23, ground := Ground.phase }, { on := 24, ground := Ground.phase }, { on := 25, ground := Ground.phase }, { on := 26, ground := Ground.phase }, { on := 27, ground := Ground.phase }, { on := 28, ground := Ground.phase }, { on := 29, ground := Ground.phase }, { on := 30, ground := Ground.phase }, { on := 31, ground := Ground.phase }], guard := none }) (v := ?_) rfl (by kernel_rfl) (by kernel_rfl) (by kernel_rfl) (fun _ _ _ h => h) (Or.inl ⟨by rfl, ?_⟩) hHeld ?_
                rotate_left 1
                · intro W hSw
                  (try dsimp only at hSw)
                  go_simp
                  try with_reducible rfl
                try simp only [Act.put, List.setIfInBounds_toArray, List.set_cons_zero, List.set_cons_succ]
                refine wpAnyH_done (by kernel_rfl) ?_ _
                clear hHeld
                go_wp2
                go_ret
                exact ⟨rfl, HB6.out⟩
              exact AllReadyH.nil
            | cons x tl =>
              have HFg := firstI_good HG.out
              simp only [HFg] at HFq
              obtain ⟨Lr, hLr⟩ : ∃ Lr, tl.length = Lr := ⟨_, rfl⟩
              obtain rfl : i = Lr + 1 := by rw [← HLq.out, List.length_cons, hLr]
              have HLr := Lib.hid hLr
              obtain ⟨g, off, hae, hbl, hr⟩ := sl_elem (HOq.out.read nc_len) 0 (by simp)
              subst hae
              obtain ⟨xk, xo, xc, xn, ⟨xa, xb, xp, xd⟩⟩ := x
              unfold IncV.val at HFq
              simp only at HFq
              have hQ := HQe.out (⟨xk, xo, xc, xn, ⟨xa, xb, xp, xd⟩⟩ : IncV) (⟨xk, xo, xc, xn, ⟨xa, xb, xp, xd⟩⟩ : IncV)
              rw [decide_eq_true rfl] at hQ
              unfold IncV.val at hQ
              simp only at hQ
              clear hLr HFg HLq
              have h16 : (Lr : Int) + 1 ≤ 16 := by omega
              have hp : (0 : Int) < (Lr : Int) + 1 := by omega
              have hw1 : wrap64 ((Lr : Int) + 1 - 1) = Lr := by unfold wrap64; omega
              have hw2 : wrap64 (Lr : Int) = Lr := by unfold wrap64; omega
              have hw3 : IntKind.i64.wrap (Lr : Int) = Lr := by rw [IntKind.wrap_i64]; omega
              have hn1 : (0 : Int) ≤ (Lr : Int) + 1 := by omega
              have HE : Hid (∀ u, Below wq.heap.size wq u → u.rangeAt g (off + 0 * 8) (nc (⟨xk, xo, xc, xn, ⟨xa, xb, xp, xd⟩⟩ : IncV))) := Lib.hid (fun u hu => range_keep hr hbl hu)
              have HE : Hid (∀ u, Below wq.heap.size wq u → (u.cell? ⟨g, off, none⟩ = some (.int .i64 xk) ∧ u.cell? ⟨g, off + 1, none⟩ = some (.int .i64 xo) ∧ u.cell? ⟨g, off + 2, none⟩ = some (.int .i64 xc) ∧ u.cell? ⟨g, off + 3, none⟩ = some (.int .i64 xn) ∧ u.cell? ⟨g, off + 4, none⟩ = some (.int .i64 xa) ∧ u.cell? ⟨g, off + 5, none⟩ = some (.int .i64 xb) ∧ u.cell? ⟨g, off + 6, none⟩ = some (.int .i64 xp) ∧ u.cell? ⟨g, off + 7, none⟩ = some (.int .i64 xd))) := Lib.hid (fun u hu => by have := ncells8 (HE.out u hu); simpa using this)
              clear hr hbl
              go_upto_region 22 with (go_at_call 47; refine (HFq.out _ _ HBq.out HOq.out).mono ?_; rintro e V6 ⟨v6, rfl, ho, hb⟩; obtain ⟨a6, c6, hv6⟩ := ho.slice; rw [HLr.out] at hv6; subst hv6; have HB6 := Lib.hid (HBq.out.trans (hb.mono HBq.out.size)); have HC6 := Lib.hid hb; clear ho hb l0 l1 l2 l3 l4)
              have hb7 := below_new V6 (.cells #[.int .i64 xk, .int .i64 xo, .int .i64 xc, .int .i64 xn, .int .i64 xa, .int .i64 xb, .int .i64 xp, .int .i64 xd] 87)
              have hx7 := ibx_new V6 (⟨xk, xo, xc, xn, ⟨xa, xb, xp, xd⟩⟩ : IncV)
              have HB6 := Lib.hid (HB6.out.trans (hb7.mono HB6.out.size))
              have HC6 := Lib.hid (HC6.out.trans (hb7.mono HC6.out.size))
              have HI7 : Hid (IBx (V6.alloc (.cells #[.int .i64 xk, .int .i64 xo, .int .i64 xc, .int .i64 xn, .int .i64 xa, .int .i64 xb, .int .i64 xp, .int .i64 xd] 87)) V6.heap.size (⟨xk, xo, xc, xn, ⟨xa, xb, xp, xd⟩⟩ : IncV)) := Lib.hid hx7
              clear hb7 hx7
              generalize V6.alloc (.cells #[.int .i64 xk, .int .i64 xo, .int .i64 xc, .int .i64 xn, .int .i64 xa, .int .i64 xb, .int .i64 xp, .int .i64 xd] 87) = V7 at HB6 HC6 HI7 ⊢
              generalize V6.heap.size = NB at HI7 ⊢
              have HI7 := Lib.hid (HI7.out.keep (below_drew (Below.refl _ _)))
              have HB6 := Lib.hid (below_drew HB6.out)
              have HC6 := Lib.hid (below_drew HC6.out)
              refine wp_region_held_drew (S := fun u => (u.cell? ⟨NB, 0, none⟩ = some (.int .i64 xk) ∧ u.cell? ⟨NB, 1, none⟩ = some (.int .i64 xo) ∧ u.cell? ⟨NB, 2, none⟩ = some (.int .i64 xc) ∧ u.cell? ⟨NB, 3, none⟩ = some (.int .i64 xn) ∧ u.cell? ⟨NB, 4, none⟩ = some (.int .i64 xa) ∧ u.cell? ⟨NB, 5, none⟩ = some (.int .i64 xb) ∧ u.cell? ⟨NB, 6, none⟩ = some (.int .i64 xp) ∧ u.cell? ⟨NB, 7, none⟩ = some (.int .i64 xd)) ∧ u.cell? ⟨g, off, none⟩ = some (.int .i64 xk) ∧ u.cell? ⟨g, off + 1, none⟩ = some (.int .i64 xo) ∧ u.cell? ⟨g, off + 2, none⟩ = some (.int .i64 xc) ∧ u.cell? ⟨g, off + 3, none⟩ = some (.int .i64 xn) ∧ u.cell? ⟨g, off + 4, none⟩ = some (.int .i64 xa) ∧ u.cell? ⟨g, off + 5, none⟩ = some (.int .i64 xb) ∧ u.cell? ⟨g, off + 6, none⟩ = some (.int .i64 xp) ∧ u.cell? ⟨g, off + 7, none⟩ = some (.int .i64 xd)) (by kernel_rfl) (⟨HI7.out.cells, HE.out _ HC6.out⟩) (fun hHeld => ?_)
              generalize V7.drew = U1 at *
              refine wpAnyH_take (i := 0) (oi := { dst := some 89, op := Op.move (Operand.tmp 5), type := 78, pos := "law.go:105", after := #[], guard := none }) (v := ?_) rfl (by kernel_rfl) (by kernel_rfl) (by kernel_rfl) (fun _ _ _ h => h) (Or.inl ⟨by rfl, ?_⟩) hHeld ?_
              rotate_left 1
              · intro W hSw
                (try dsimp only at hSw)
                go_simp
                try with_reducible rfl
              try simp only [Act.put, List.setIfInBounds_toArray, List.set_cons_zero, List.set_cons_succ]
              refine wpAnyH_take (i := 1) (oi := { dst := some 90, op := Op.call { callee := Callee.builtin Builtin.len, args := #[Operand.tmp 89], argTypes := #[78] }, type := 3, pos := "law.go:105", after := #[{ on := 0, ground := Ground.data }], guard := none }) (v := ?_) rfl (by kernel_rfl) (by kernel_rfl) (by kernel_rfl) (fun _ _ _ h => h) (Or.inl ⟨by rfl, ?_⟩) hHeld ?_
              rotate_left 1
              · intro W hSw
                (try dsimp only at hSw)
                go_simp
                try with_reducible rfl
              try simp only [Act.put, List.setIfInBounds_toArray, List.set_cons_zero, List.set_cons_succ]
              refine wpAnyH_take (i := 2) (oi := { dst := some 91, op := Op.binOp BinOp.leq 3 (Operand.tmp 90) (Operand.const (Value.int IntKind.i64 16)) 3, type := 4, pos := "law.go:105", after := #[{ on := 1, ground := Ground.data }], guard := none }) (v := ?_) rfl (by kernel_rfl) (by kernel_rfl) (by kernel_rfl) (fun _ _ _ h => h) (Or.inl ⟨by rfl, ?_⟩) hHeld ?_
              rotate_left 1
              · intro W hSw
                (try dsimp only at hSw)
                go_simp
                try with_reducible rfl
              try simp only [Act.put, List.setIfInBounds_toArray, List.set_cons_zero, List.set_cons_succ]
              refine wpAnyH_take (i := 3) (oi := { dst := some 92, op := Op.move (Operand.tmp 91), type := 4, pos := "law.go:105", after := #[{ on := 2, ground := Ground.data }], guard := none }) (v := ?_) rfl (by kernel_rfl) (by kernel_rfl) (by kernel_rfl) (fun _ _ _ h => h) (Or.inl ⟨by rfl, ?_⟩) hHeld ?_
              rotate_left 1
              · intro W hSw
                (try dsimp only at hSw)
                go_simp
                try with_reducible rfl
              try simp only [Act.put, List.setIfInBounds_toArray, List.set_cons_zero, List.set_cons_succ]
              refine wpAnyH_take (i := 4) (oi := { dst := some 93, op := Op.move (Operand.tmp 13), type := 4, pos := "law.go:105", after := #[{ on := 3, ground := Ground.guard }], guard := some (3, true) }) (v := ?_) rfl (by kernel_rfl) (by kernel_rfl) (by kernel_rfl) (fun _ _ _ h => h) (Or.inl ⟨by rfl, ?_⟩) hHeld ?_
              rotate_left 1
              · intro W hSw
                (try dsimp only at hSw)
                go_simp
                try with_reducible rfl
              try simp only [Act.put, List.setIfInBounds_toArray, List.set_cons_zero, List.set_cons_succ]
              refine wpAnyH_take (i := 5) (oi := { dst := some 94, op := Op.move (Operand.tmp 5), type := 78, pos := "law.go:105", after := #[{ on := 3, ground := Ground.guard }], guard := some (3, true) }) (v := ?_) rfl (by kernel_rfl) (by kernel_rfl) (by kernel_rfl) (fun _ _ _ h => h) (Or.inl ⟨by rfl, ?_⟩) hHeld ?_
              rotate_left 1
              · intro W hSw
                (try dsimp only at hSw)
                go_simp
                try with_reducible rfl
              try simp only [Act.put, List.setIfInBounds_toArray, List.set_cons_zero, List.set_cons_succ]
              refine wpAnyH_take (i := 6) (oi := { dst := some 95, op := Op.call { callee := Callee.builtin Builtin.len, args := #[Operand.tmp 94], argTypes := #[78] }, type := 3, pos := "law.go:105", after := #[{ on := 5, ground := Ground.data }, { on := 3, ground := Ground.guard }], guard := some (3, true) }) (v := ?_) rfl (by kernel_rfl) (by kernel_rfl) (by kernel_rfl) (fun _ _ _ h => h) (Or.inl ⟨by rfl, ?_⟩) hHeld ?_
              rotate_left 1
              · intro W hSw
                (try dsimp only at hSw)
                go_simp
                try with_reducible rfl
              try simp only [Act.put, List.setIfInBounds_toArray, List.set_cons_zero, List.set_cons_succ]
              refine wpAnyH_take (i := 7) (oi := { dst := some 96, op := Op.binOp BinOp.gtr 3 (Operand.tmp 95) (Operand.const (Value.int IntKind.i64 0)) 3, type := 4, pos := "law.go:105", after := #[{ on := 6, ground := Ground.data }, { on := 3, ground := Ground.guard }], guard := some (3, true) }) (v := ?_) rfl (by kernel_rfl) (by kernel_rfl) (by kernel_rfl) (fun _ _ _ h => h) (Or.inl ⟨by rfl, ?_⟩) hHeld ?_
              rotate_left 1
              · intro W hSw
                (try dsimp only at hSw)
                go_simp
                try with_reducible rfl
              try simp only [Act.put, List.setIfInBounds_toArray, List.set_cons_zero, List.set_cons_succ]
              refine wpAnyH_take (i := 8) (oi := { dst := some 97, op := Op.binOp BinOp.eql 4 (Operand.tmp 93) (Operand.tmp 96) 4, type := 4, pos := "law.go:105", after := #[{ on := 4, ground := Ground.data }, { on := 7, ground := Ground.data }, { on := 3, ground := Ground.guard }], guard := some (3, true) }) (v := ?_) rfl (by kernel_rfl) (by kernel_rfl) (by kernel_rfl) (fun _ _ _ h => h) (Or.inl ⟨by rfl, ?_⟩) hHeld ?_
              rotate_left 1
              · intro W hSw
                (try dsimp only at hSw)
                go_simp
                try with_reducible rfl
              try simp only [Act.put, List.setIfInBounds_toArray, List.set_cons_zero, List.set_cons_succ]
              refine wpAnyH_take (i := 9) (oi := { dst := some 98, op := Op.pick (Operand.tmp 92) (Operand.tmp 97) (Operand.const (Value.bool false)), type := 4, pos := "law.go:105", after := #[{ on := 3, ground := Ground.data }, { on := 8, ground := Ground.data }], guard := none }) (v := ?_) rfl (by kernel_rfl) (by kernel_rfl) (by kernel_rfl) (fun _ _ _ h => h) (Or.inl ⟨by rfl, ?_⟩) hHeld ?_
              rotate_left 1
              · intro W hSw
                (try dsimp only at hSw)
                go_simp
                try with_reducible rfl
              try simp only [Act.put, List.setIfInBounds_toArray, List.set_cons_zero, List.set_cons_succ]
              refine wpAnyH_take (i := 10) (oi := { dst := some 99, op := Op.move (Operand.tmp 98), type := 4, pos := "law.go:105", after := #[{ on := 9, ground := Ground.data }, { on := 3, ground := Ground.chain }], guard := none }) (v := ?_) rfl (by kernel_rfl) (by kernel_rfl) (by kernel_rfl) (fun _ _ _ h => h) (Or.inl ⟨by rfl, ?_⟩) hHeld ?_
              rotate_left 1
              · intro W hSw
                (try dsimp only at hSw)
                go_simp
                try with_reducible rfl
              try simp only [Act.put, List.setIfInBounds_toArray, List.set_cons_zero, List.set_cons_succ]
              refine wpAnyH_take (i := 11) (oi := { dst := some 100, op := Op.move (Operand.tmp 13), type := 4, pos := "law.go:105", after := #[{ on := 10, ground := Ground.guard }], guard := some (10, true) }) (v := ?_) rfl (by kernel_rfl) (by kernel_rfl) (by kernel_rfl) (fun _ _ _ h => h) (Or.inl ⟨by rfl, ?_⟩) hHeld ?_
              rotate_left 1
              · intro W hSw
                (try dsimp only at hSw)
                go_simp
                try with_reducible rfl
              try simp only [Act.put, List.setIfInBounds_toArray, List.set_cons_zero, List.set_cons_succ]
              refine wpAnyH_take (i := 12) (oi := { dst := some 101, op := Op.unOp UnOp.not 4 (Operand.tmp 100), type := 4, pos := "law.go:105", after := #[{ on := 11, ground := Ground.data }, { on := 10, ground := Ground.guard }], guard := some (10, true) }) (v := ?_) rfl (by kernel_rfl) (by kernel_rfl) (by kernel_rfl) (fun _ _ _ h => h) (Or.inl ⟨by rfl, ?_⟩) hHeld ?_
              rotate_left 1
              · intro W hSw
                (try dsimp only at hSw)
                go_simp
                try with_reducible rfl
              try simp only [Act.put, List.setIfInBounds_toArray, List.set_cons_zero, List.set_cons_succ]
              refine wpAnyH_take (i := 13) (oi := { dst := some 102, op := Op.move (Operand.tmp 101), type := 4, pos := "law.go:105", after := #[{ on := 12, ground := Ground.data }, { on := 10, ground := Ground.chain }, { on := 10, ground := Ground.guard }], guard := some (10, true) }) (v := ?_) rfl (by kernel_rfl) (by kernel_rfl) (by kernel_rfl) (fun _ _ _ h => h) (Or.inl ⟨by rfl, ?_⟩) hHeld ?_
              rotate_left 1
              · intro W hSw
                (try dsimp only at hSw)
                go_simp
                try with_reducible rfl
              try simp only [Act.put, List.setIfInBounds_toArray, List.set_cons_zero, List.set_cons_succ]
              refine wpAnyH_take (i := 14) (oi := { dst := some 103, op := Op.load 87 (Operand.tmp 11), type := 87, pos := "law.go:105", after := #[{ on := 13, ground := Ground.guard }], guard := some (13, false) }) (v := ?_) rfl (by kernel_rfl) (by kernel_rfl) (by kernel_rfl) (fun _ _ _ h => h) (Or.inl ⟨by rfl, ?_⟩) hHeld ?_
              rotate_left 1
              · intro W hSw
                (try dsimp only at hSw)
                go_simp
                try with_reducible rfl
              try simp only [Act.put, List.setIfInBounds_toArray, List.set_cons_zero, List.set_cons_succ]
              refine wpAnyH_take (i := 15) (oi := { dst := some 104, op := Op.move (Operand.tmp 5), type := 78, pos := "law.go:105", after := #[{ on := 13, ground := Ground.guard }], guard := some (13, false) }) (v := ?_) rfl (by kernel_rfl) (by kernel_rfl) (by kernel_rfl) (fun _ _ _ h => h) (Or.inl ⟨by rfl, ?_⟩) hHeld ?_
              rotate_left 1
              · intro W hSw
                (try dsimp only at hSw)
                go_simp
                try with_reducible rfl
              try simp only [Act.put, List.setIfInBounds_toArray, List.set_cons_zero, List.set_cons_succ]
              refine wpAnyH_take (i := 16) (oi := { dst := some 105, op := Op.indexAddr 78 (Operand.tmp 104) (Operand.const (Value.int IntKind.i64 0)), type := 0, pos := "law.go:105", after := #[{ on := 15, ground := Ground.data }, { on := 13, ground := Ground.guard }], guard := some (13, false) }) (v := ?_) rfl (by kernel_rfl) (by kernel_rfl) (by kernel_rfl) (fun _ _ _ h => h) (Or.inl ⟨by rfl, ?_⟩) hHeld ?_
              rotate_left 1
              · intro W hSw
                (try dsimp only at hSw)
                go_simp
                try with_reducible rfl
              try simp only [Act.put, List.setIfInBounds_toArray, List.set_cons_zero, List.set_cons_succ]
              refine wpAnyH_take (i := 17) (oi := { dst := some 106, op := Op.load 87 (Operand.tmp 105), type := 87, pos := "law.go:105", after := #[{ on := 16, ground := Ground.data }, { on := 13, ground := Ground.guard }], guard := some (13, false) }) (v := ?_) rfl (by kernel_rfl) (by kernel_rfl) (by kernel_rfl) (fun _ _ _ h => h) (Or.inl ⟨by rfl, ?_⟩) hHeld ?_
              rotate_left 1
              · intro W hSw
                (try dsimp only at hSw)
                go_simp
                try with_reducible rfl
              try simp only [Act.put, List.setIfInBounds_toArray, List.set_cons_zero, List.set_cons_succ]
              refine wpAnyH_take (i := 18) (oi := { dst := some 107, op := Op.binOp BinOp.eql 87 (Operand.tmp 103) (Operand.tmp 106) 87, type := 4, pos := "law.go:105", after := #[{ on := 14, ground := Ground.data }, { on := 17, ground := Ground.data }, { on := 13, ground := Ground.guard }], guard := some (13, false) }) (v := ?_) rfl (by kernel_rfl) (by kernel_rfl) (by kernel_rfl) (fun _ _ _ h => h) (Or.inl ⟨by rfl, ?_⟩) hHeld ?_
              rotate_left 1
              · intro W hSw
                (try dsimp only at hSw)
                go_simp
                try with_reducible rfl
              try simp only [Act.put, List.setIfInBounds_toArray, List.set_cons_zero, List.set_cons_succ]
              refine wpAnyH_take (i := 19) (oi := { dst := some 108, op := Op.move (Operand.tmp 107), type := 4, pos := "law.go:105", after := #[{ on := 18, ground := Ground.data }, { on := 13, ground := Ground.chain }, { on := 13, ground := Ground.guard }], guard := some (13, false) }) (v := ?_) rfl (by kernel_rfl) (by kernel_rfl) (by kernel_rfl) (fun _ _ _ h => h) (Or.inl ⟨by rfl, ?_⟩) hHeld ?_
              rotate_left 1
              · intro W hSw
                (try dsimp only at hSw)
                go_simp
                try with_reducible rfl
              try simp only [Act.put, List.setIfInBounds_toArray, List.set_cons_zero, List.set_cons_succ]
              refine wpAnyH_take (i := 20) (oi := { dst := some 109, op := Op.move (Operand.tmp 12), type := 78, pos := "law.go:105", after := #[{ on := 19, ground := Ground.guard }], guard := some (19, true) }) (v := ?_) rfl (by kernel_rfl) (by kernel_rfl) (by kernel_rfl) (fun _ _ _ h => h) (Or.inl ⟨by rfl, ?_⟩) hHeld ?_
              rotate_left 1
              · intro W hSw
                (try dsimp only at hSw)
                go_simp
                try with_reducible rfl
              try simp only [Act.put, List.setIfInBounds_toArray, List.set_cons_zero, List.set_cons_succ]
              refine wpAnyH_take (i := 21) (oi := { dst := some 110, op := Op.call { callee := Callee.builtin Builtin.len, args := #[Operand.tmp 109], argTypes := #[78] }, type := 3, pos := "law.go:105", after := #[{ on := 20, ground := Ground.data }, { on := 19, ground := Ground.guard }], guard := some (19, true) }) (v := ?_) rfl (by kernel_rfl) (by kernel_rfl) (by kernel_rfl) (fun _ _ _ h => h) (Or.inl ⟨by rfl, ?_⟩) hHeld ?_
              rotate_left 1
              · intro W hSw
                (try dsimp only at hSw)
                go_simp
                try with_reducible rfl
              try simp only [Act.put, List.setIfInBounds_toArray, List.set_cons_zero, List.set_cons_succ]
              refine wpAnyH_take (i := 22) (oi := { dst := some 111, op := Op.move (Operand.tmp 5), type := 78, pos := "law.go:105", after := #[{ on := 19, ground := Ground.guard }], guard := some (19, true) }) (v := ?_) rfl (by kernel_rfl) (by kernel_rfl) (by kernel_rfl) (fun _ _ _ h => h) (Or.inl ⟨by rfl, ?_⟩) hHeld ?_
              rotate_left 1
              · intro W hSw
                (try dsimp only at hSw)
                go_simp
                try with_reducible rfl
              try simp only [Act.put, List.setIfInBounds_toArray, List.set_cons_zero, List.set_cons_succ]
              refine wpAnyH_take (i := 23) (oi := { dst := some 112, op := Op.call { callee := Callee.builtin Builtin.len, args := #[Operand.tmp 111], argTypes := #[78] }, type := 3, pos := "law.go:105", after := #[{ on := 22, ground := Ground.data }, { on := 19, ground := Ground.guard }], guard := some (19, true) }) (v := ?_) rfl (by kernel_rfl) (by kernel_rfl) (by kernel_rfl) (fun _ _ _ h => h) (Or.inl ⟨by rfl, ?_⟩) hHeld ?_
              rotate_left 1
              · intro W hSw
                (try dsimp only at hSw)
                go_simp
                try with_reducible rfl
              try simp only [Act.put, List.setIfInBounds_toArray, List.set_cons_zero, List.set_cons_succ]
              refine wpAnyH_take (i := 24) (oi := { dst := some 113, op := Op.binOp BinOp.sub 3 (Operand.tmp 112) (Operand.const (Value.int IntKind.i64 1)) 3, type := 3, pos := "law.go:105", after := #[{ on := 23, ground := Ground.data }, { on := 19, ground := Ground.guard }], guard := some (19, true) }) (v := ?_) rfl (by kernel_rfl) (by kernel_rfl) (by kernel_rfl) (fun _ _ _ h => h) (Or.inl ⟨by rfl, ?_⟩) hHeld ?_
              rotate_left 1
              · intro W hSw
                (try dsimp only at hSw)
                go_simp
                try with_reducible rfl
              try simp only [Act.put, List.setIfInBounds_toArray, List.set_cons_zero, List.set_cons_succ]
              refine wpAnyH_take (i := 25) (oi := { dst := some 114, op := Op.binOp BinOp.eql 3 (Operand.tmp 110) (Operand.tmp 113) 3, type := 4, pos := "law.go:105", after := #[{ on := 21, ground := Ground.data }, { on := 24, ground := Ground.data }, { on := 19, ground := Ground.guard }], guard := some (19, true) }) (v := ?_) rfl (by kernel_rfl) (by kernel_rfl) (by kernel_rfl) (fun _ _ _ h => h) (Or.inl ⟨by rfl, ?_⟩) hHeld ?_
              rotate_left 1
              · intro W hSw
                (try dsimp only at hSw)
                go_simp
                try with_reducible rfl
              try simp only [Act.put, List.setIfInBounds_toArray, List.set_cons_zero, List.set_cons_succ]
              refine wpAnyH_take (i := 26) (oi := { dst := some 115, op := Op.pick (Operand.tmp 108) (Operand.tmp 114) (Operand.const (Value.bool false)), type := 4, pos := "law.go:105", after := #[{ on := 19, ground := Ground.data }, { on := 25, ground := Ground.data }, { on := 13, ground := Ground.guard }], guard := some (13, false) }) (v := ?_) rfl (by kernel_rfl) (by kernel_rfl) (by kernel_rfl) (fun _ _ _ h => h) (Or.inl ⟨by rfl, ?_⟩) hHeld ?_
              rotate_left 1
              · intro W hSw
                (try dsimp only at hSw)
                go_simp
                try with_reducible rfl
              try simp only [Act.put, List.setIfInBounds_toArray, List.set_cons_zero, List.set_cons_succ]
              refine wpAnyH_take (i := 27) (oi := { dst := some 116, op := Op.pick (Operand.tmp 102) (Operand.const (Value.bool true)) (Operand.tmp 115), type := 4, pos := "law.go:105", after := #[{ on := 13, ground := Ground.data }, { on := 26, ground := Ground.data }, { on := 10, ground := Ground.guard }], guard := some (10, true) }) (v := ?_) rfl (by kernel_rfl) (by kernel_rfl) (by kernel_rfl) (fun _ _ _ h => h) (Or.inl ⟨by rfl, ?_⟩) hHeld ?_
              rotate_left 1
              · intro W hSw
                (try dsimp only at hSw)
                go_simp
                try with_reducible rfl
              try simp only [Act.put, List.setIfInBounds_toArray, List.set_cons_zero, List.set_cons_succ]
              refine wpAnyH_take (i := 28) (oi := { dst := some 117, op := Op.pick (Operand.tmp 99) (Operand.tmp 116) (Operand.const (Value.bool false)), type := 4, pos := "law.go:105", after := #[{ on := 10, ground := Ground.data }, { on := 27, ground := Ground.data }], guard := none }) (v := ?_) rfl (by kernel_rfl) (by kernel_rfl) (by kernel_rfl) (fun _ _ _ h => h) (Or.inl ⟨by rfl, ?_⟩) hHeld ?_
              rotate_left 1
              · intro W hSw
                (try dsimp only at hSw)
                go_simp
                try with_reducible rfl
              try simp only [Act.put, List.setIfInBounds_toArray, List.set_cons_zero, List.set_cons_succ]
              refine wpAnyH_take (i := 29) (oi := { dst := some 118, op := Op.move (Operand.tmp 117), type := 4, pos := "law.go:105", after := #[{ on := 28, ground := Ground.data }, { on := 19, ground := Ground.chain }], guard := none }) (v := ?_) rfl (by kernel_rfl) (by kernel_rfl) (by kernel_rfl) (fun _ _ _ h => h) (Or.inl ⟨by rfl, ?_⟩) hHeld ?_
              rotate_left 1
              · intro W hSw
                (try dsimp only at hSw)
                go_simp
                try with_reducible rfl
              try simp only [Act.put, List.setIfInBounds_toArray, List.set_cons_zero, List.set_cons_succ]
              refine wpAnyH_ready (rs := [30]) (by kernel_rfl) (by simp) ?_
              refine AllReadyH.cons (o := { dst := some 119, op := Op.call { callee := Callee.value (Operand.func 41), args := #[], argTypes := #[] }, type := 4, pos := "law.go:105", after := #[{ on := 29, ground := Ground.chain }, { on := 29, ground := Ground.guard }], guard := some (29, true) }) rfl (fun K7 hK7 => ?_) ?_
              · go_simp
                refine (HAw.out _).mono ?_
                rintro e V8 ⟨rfl, hb⟩
                have HB6 := Lib.hid (HB6.out.trans (hb.mono HB6.out.size))
                have HC6 := Lib.hid (HC6.out.trans (hb.mono HC6.out.size))
                have HI7 := Lib.hid (HI7.out.keep hb)
                try dsimp only
                refine hK7.out _ _ (⟨HI7.out.cells, HE.out _ HC6.out⟩) (fun hHeld => ?_)
                clear hK7 K7
                try simp only [Act.put, List.setIfInBounds_toArray, List.set_cons_zero, List.set_cons_succ]
                refine wpAnyH_take (i := 31) (oi := { dst := some 120, op := Op.pick (Operand.tmp 118) (Operand.tmp 119) (Operand.const (Value.bool false)), type := 4, pos := "law.go:105", after := #[{ on := 29, ground := Ground.data }, { on := 30, ground := Ground.data }], guard := none }) (v := ?_) rfl (by kernel_rfl) (by kernel_rfl) (by kernel_rfl) (fun _ _ _ h => h) (Or.inl ⟨by rfl, ?_⟩) hHeld ?_
                rotate_left 1
                · intro W hSw
                  (try dsimp only at hSw)
                  go_simp
                  try with_reducible rfl
                try simp only [Act.put, List.setIfInBounds_toArray, List.set_cons_zero, List.set_cons_succ]
                refine wpAnyH_take (i := 32) (oi := { dst := some 4, op := Op.assign (Operand.tmp 120), type := 4, pos := "law.go:105", after := #[{ on := 31, ground := Ground.data }, { on := 30, ground := Ground.chain }, { on := 0, ground := Ground.phase }, { on := 1, ground := Ground.phase }, { on := 2, ground := Ground.phase }, { on := 3, ground := Ground.phase }, { on := 4, ground := Ground.phase }, { on := 5, ground := Ground.phase }, { on := 6, ground := Ground.phase }, { on := 7, ground := Ground.phase }, { on := 8, ground := Ground.phase }, { on := 9, ground := Ground.phase }, { on := 10, ground := Ground.phase }, { on := 11, ground := Ground.phase }, { on := 12, ground := Ground.phase }, { on := 13, ground := Ground.phase }, { on := 14, ground := Ground.phase }, { on := 15, ground := Ground.phase }, { on := 16, ground := Ground.phase }, { on := 17, ground := Ground.phase }, { on := 18, ground := Ground.phase }, { on := 19, ground := Ground.phase }, { on := 20, ground := Ground.phase }, { on := 21, ground := Ground.phase }, { on := 22, ground := Ground.phase }, { on := 23, ground := Ground.phase }, { on := 24, ground := Ground.phase }, { on := 25, ground := Ground.phase }, { on := 26, ground := Ground.phase }, { on := 27, ground := Ground.phase }, { on := 28, ground := Ground.phase }, { on := 29, ground := Ground.phase }, { on := 30, ground := Ground.phase }, { on := 31, ground := Ground.phase }], guard := none }) (v := ?_) rfl (by kernel_rfl) (by kernel_rfl) (by kernel_rfl) (fun _ _ _ h => h) (Or.inl ⟨by rfl, ?_⟩) hHeld ?_
                rotate_left 1
                · intro W hSw
                  (try dsimp only at hSw)
                  go_simp
                  try with_reducible rfl
                try simp only [Act.put, List.setIfInBounds_toArray, List.set_cons_zero, List.set_cons_succ]
                refine wpAnyH_done (by kernel_rfl) ?_ _
                clear hHeld
                go_wp2
                go_ret
                exact ⟨rfl, HB6.out⟩
              exact AllReadyH.nil
end Go.Proofs.Ytcofmfjhgbihkaa.crush
