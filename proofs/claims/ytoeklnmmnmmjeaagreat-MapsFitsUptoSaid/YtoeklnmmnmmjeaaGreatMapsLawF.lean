/- MapsFits: which maps, pools and changes are ones, and how changes are written and read, is the document's. -/
import Derived.Test.YtoeklnmmnmmjeaaGreatRows
import Derived.Test.YtoeklnmmnmmjeaaGreatMMb
import Derived.Test.YtoeklnmmnmmjeaaGreatMMc
import Derived.Test.YtoeklnmmnmmjeaaGreatMapsRDec2
import Derived.Test.YtoeklnmmnmmjeaaGreatMapsRSame
import Derived.Test.YtoeklnmmnmmjeaaGreatMapsAwake
import Derived.Test.YtoeklnmmnmmjeaaGreatMapsLiftM
import Derived.Test.YtoeklnmmnmmjeaaGreatUpto
namespace Go.Proofs.YtoeklnmmnmmjeaaGreat.crush
open Go.ChangeShapes Go.WideShapes Go.ChangeAt Go.RowKit
open Go.ChangeMaps (open_string shut_string)
open Go.Proofs.YtoeklnmmnmmjeaaGreat.kit Go.Proofs.YtoeklnmmnmmjeaaGreat.own Go.Proofs.YtoeklnmmnmmjeaaGreat.cm Go.Proofs.YtoeklnmmnmmjeaaGreat.lift
set_option linter.unusedVariables false
set_option linter.unusedSimpArgs false

theorem eql_inc_self (c : IncV) (w : World) : (binOp .eql 31 (.agg #[.int .i64 c.kind, .int .i64 c.osd, .int .i64 c.client, .int .i64 c.num, .int .i64 c.pool.size, .int .i64 c.pool.min, .int .i64 c.pool.pgs, .int .i64 c.pool.dom]) (.agg #[.int .i64 c.kind, .int .i64 c.osd, .int .i64 c.client, .int .i64 c.num, .int .i64 c.pool.size, .int .i64 c.pool.min, .int .i64 c.pool.pgs, .int .i64 c.pool.dom])).run Tryz.prog w = .ok (.bool true) w := by
  go_simp
theorem three_objs (w : World) (o1 o2 o3 : Obj) : (((w.alloc o1).alloc o2).alloc o3).heap[w.heap.size]? = some o1 ∧ (((w.alloc o1).alloc o2).alloc o3).heap[w.heap.size + 1]? = some o2 ∧ (((w.alloc o1).alloc o2).alloc o3).heap[w.heap.size + 1 + 1]? = some o3 := by
  have h1 : ((w.alloc o1).alloc o2).heap[w.heap.size]? = some o1 := ((below_new (w.alloc o1) o2).block _ (by simp)).trans (alloc_at w o1)
  have h2 := alloc_at (w.alloc o1) o2
  rw [World.size_alloc] at h2
  refine ⟨((below_new _ o3).block _ (by simp; omega)).trans h1, ((below_new _ o3).block _ (by simp)).trans h2, ?_⟩
  have := alloc_at ((w.alloc o1).alloc o2) o3
  rw [World.size_alloc, World.size_alloc] at this
  exact this
/-- The boxes of the law: two maps and a change. -/
structure FBx (w : World) (N : Nat) (em : Int) (vh vo vp vb : Value) (en : Int) (uh uo up ub : Value) (c : IncV) (W : World) : Prop where
  bel : Below w.heap.size w W
  one : MBox W N 27 em vh vo vp vb
  two : MBox W (N + 1) 27 en uh uo up ub
  inc : IBx W (N + 1 + 1) c
theorem FBx.keep {w : World} {N : Nat} {em : Int} {vh vo vp vb : Value} {en : Int} {uh uo up ub : Value} {c : IncV} {W W' : World} (h : FBx w N em vh vo vp vb en uh uo up ub c W) (hb : Below W.heap.size W W') : FBx w N em vh vo vp vb en uh uo up ub c W' :=
  ⟨h.bel.trans (hb.mono h.bel.size), h.one.keep hb, h.two.keep hb, h.inc.keep hb⟩

set_option maxHeartbeats 32000000 in
set_option maxRecDepth 100000 in
theorem walkFits (va vb : Value) (m n : MapV) (c : IncV) (s : ByteArray) (w : World) (ha : MapR w va m) (hb : MapR w vb n) (hs : s.size ≤ 100000000000) : Calls Tryz.prog 3 #[va, vb, c.val, .string s] w fun e w' => e = .returned (.bool true) ∧ Below w.heap.size w w' := by
  have HD1 := Lib.hid (fun u => Decode_any s hs u)
  have HD2 := Lib.hid (fun u => rDecode_any s hs u)
  have HF1 := Lib.hid (fun u (hu : Below w.heap.size w u) => Fit_all va m u (ha.keep hu))
  have HF2 := Lib.hid (fun u (hu : Below w.heap.size w u) => rFit_any va m u (ha.keep hu))
  have HS1 := Lib.hid (fun u (hu : Below w.heap.size w u) => Same_any va vb m n u (ha.keep hu) (hb.keep hu))
  have HS2 := Lib.hid (fun u (hu : Below w.heap.size w u) => rSame_any va vb m n u (ha.keep hu) (hb.keep hu))
  have HP1 := Lib.hid (fun u => Pool_any c.pool u)
  have HP2 := Lib.hid (fun u => rPool_any c.pool u)
  have HI1 := Lib.hid (fun u => Inc_any c u)
  have HI2 := Lib.hid (fun u => rInc_any c u)
  have HE1 := Lib.hid (fun u => Encode_any c u)
  have HE2 := Lib.hid (fun u => rEncode_any c u)
  obtain ⟨⟨z, d⟩, hzd⟩ : ∃ p, decB (txtN s) = p := ⟨_, rfl⟩
  rw [hzd] at HD1 HD2
  have hq := fun u => eql_inc_self d u
  have HQ := Lib.hid hq
  obtain ⟨R1, h1⟩ : ∃ R, okMap m = R := ⟨_, rfl⟩
  obtain ⟨R2, h2⟩ : ∃ R, sameE m n = R := ⟨_, rfl⟩
  obtain ⟨R3, h3⟩ : ∃ R, okPool c.pool = R := ⟨_, rfl⟩
  obtain ⟨R4, h4⟩ : ∃ R, okInc c = R := ⟨_, rfl⟩
  obtain ⟨R5, h5⟩ : ∃ R, encE c = R := ⟨_, rfl⟩
  rw [h1] at HF1 HF2; rw [h2] at HS1 HS2; rw [h3] at HP1 HP2; rw [h4] at HI1 HI2; rw [h5] at HE1 HE2
  clear h1 h2 h3 h4 h5 hzd hq
  obtain ⟨a1, a2, a3, a4, rfl, r1, r2, r3, r4⟩ := ha
  obtain ⟨e1, e2, e3, e4, rfl, s1, s2, s3, s4⟩ := hb
  obtain ⟨x1, y1, rfl⟩ := r1.slice; obtain ⟨x2, y2, rfl⟩ := r2.slice; obtain ⟨x3, y3, rfl⟩ := r3.slice; obtain ⟨x4, y4, rfl⟩ := r4.slice
  obtain ⟨u1, v1, rfl⟩ := s1.slice; obtain ⟨u2, v2, rfl⟩ := s2.slice; obtain ⟨u3, v3, rfl⟩ := s3.slice; obtain ⟨u4, v4, rfl⟩ := s4.slice
  clear r1 r2 r3 r4 s1 s2 s3 s4
  generalize m.epoch = em at *; generalize n.epoch = en at *
  generalize m.hosts.length = k1 at *; generalize m.osds.length = k2 at *; generalize m.pools.length = k3 at *; generalize m.bans.length = k4 at *
  generalize n.hosts.length = l1 at *; generalize n.osds.length = l2 at *; generalize n.pools.length = l3 at *; generalize n.bans.length = l4 at *
  have h3o := three_objs w (.cells #[.int .i64 em, .slice x1 k1 y1, .slice x2 k2 y2, .slice x3 k3 y3, .slice x4 k4 y4] 27) (.cells #[.int .i64 en, .slice u1 l1 v1, .slice u2 l2 v2, .slice u3 l3 v3, .slice u4 l4 v4] 27) (.cells #[.int .i64 c.kind, .int .i64 c.osd, .int .i64 c.client, .int .i64 c.num, .int .i64 c.pool.size, .int .i64 c.pool.min, .int .i64 c.pool.pgs, .int .i64 c.pool.dom] 31)
  have HX : Hid (FBx w w.heap.size em (.slice x1 k1 y1) (.slice x2 k2 y2) (.slice x3 k3 y3) (.slice x4 k4 y4) en (.slice u1 l1 v1) (.slice u2 l2 v2) (.slice u3 l3 v3) (.slice u4 l4 v4) c _) := Lib.hid ⟨((below_new w _).alloc (by simp) _).alloc (by simp; omega) _, h3o.1, h3o.2.1, h3o.2.2⟩
  clear h3o
  obtain ⟨ck, co, cc, cn, ⟨p1, p2, p3, p4⟩⟩ := c
  obtain ⟨dk, dO, dc, dn, ⟨q1, q2, q3, q4⟩⟩ := d
  unfold DecS IncV.val at HD1 HD2
  unfold IncV.val at HI1 HI2 HE1 HE2 ⊢
  unfold PoolV.val at HP1 HP2
  simp only at HD1 HD2 HI1 HI2 HE1 HE2 HP1 HP2 HX HQ ⊢
  have mixed : Tryz.prog.follows .mixedOrders = true := by kernel_rfl
  go_enter Tryz.func3, Tryz.ntmps3
  go_upto_region 1 with fail
  obtain ⟨N, hN⟩ : ∃ N, w.heap.size = N := ⟨_, rfl⟩
  rw [hN] at HX ⊢
  generalize (((w.alloc _).alloc _).alloc _) = W at HX ⊢
  go_upto_region 2 with (go_at_call 12; refine (HD1.out _).mono ?_; rintro e w1 ⟨rfl, hb⟩; have HX1 := Lib.hid (HX.out.keep hb); clear hb)
  have HX2 := Lib.hid (HX1.out.keep (below_new w1 (.cells #[.int .i64 dk, .int .i64 dO, .int .i64 dc, .int .i64 dn, .int .i64 q1, .int .i64 q2, .int .i64 q3, .int .i64 q4] 31)))
  have HA2 := Lib.hid (ibx_new w1 ⟨dk, dO, dc, dn, ⟨q1, q2, q3, q4⟩⟩)
  generalize w1.alloc (.cells #[.int .i64 dk, .int .i64 dO, .int .i64 dc, .int .i64 dn, .int .i64 q1, .int .i64 q2, .int .i64 q3, .int .i64 q4] 31) = W2 at HX2 HA2 ⊢
  generalize w1.heap.size = A at HA2 ⊢
  go_upto_region 3 with (go_at_call 13; refine (HD2.out _).mono ?_; rintro e w3 ⟨rfl, hb⟩; have HX3 := Lib.hid (HX2.out.keep hb); have HA3 := Lib.hid (HA2.out.keep hb); clear hb)
  have HX4 := Lib.hid (HX3.out.keep (below_new w3 (.cells #[.int .i64 dk, .int .i64 dO, .int .i64 dc, .int .i64 dn, .int .i64 q1, .int .i64 q2, .int .i64 q3, .int .i64 q4] 31)))
  have HA4 := Lib.hid (HA3.out.keep (below_new w3 (.cells #[.int .i64 dk, .int .i64 dO, .int .i64 dc, .int .i64 dn, .int .i64 q1, .int .i64 q2, .int .i64 q3, .int .i64 q4] 31)))
  have HB4 := Lib.hid (ibx_new w3 ⟨dk, dO, dc, dn, ⟨q1, q2, q3, q4⟩⟩)
  generalize w3.alloc (.cells #[.int .i64 dk, .int .i64 dO, .int .i64 dc, .int .i64 dn, .int .i64 q1, .int .i64 q2, .int .i64 q3, .int .i64 q4] 31) = W4 at HX4 HA4 HB4 ⊢
  generalize w3.heap.size = B at HB4 ⊢
  have HX5 := Lib.hid (HX4.out.keep (below_drew (Below.refl _ _)))
  have HA5 := Lib.hid (HA4.out.keep (below_drew (Below.refl _ _)))
  have HB5 := Lib.hid (HB4.out.keep (below_drew (Below.refl _ _)))
  have hq := HQ.out
  --R3
  refine wp_region_held_drew (S := fun u => (u.cell? ⟨N, 0, none⟩ = some (.int .i64 em) ∧ u.cell? ⟨N, 1, none⟩ = some (.slice x1 k1 y1) ∧ u.cell? ⟨N, 2, none⟩ = some (.slice x2 k2 y2) ∧ u.cell? ⟨N, 3, none⟩ = some (.slice x3 k3 y3) ∧ u.cell? ⟨N, 4, none⟩ = some (.slice x4 k4 y4)) ∧ (u.cell? ⟨N + 1, 0, none⟩ = some (.int .i64 en) ∧ u.cell? ⟨N + 1, 1, none⟩ = some (.slice u1 l1 v1) ∧ u.cell? ⟨N + 1, 2, none⟩ = some (.slice u2 l2 v2) ∧ u.cell? ⟨N + 1, 3, none⟩ = some (.slice u3 l3 v3) ∧ u.cell? ⟨N + 1, 4, none⟩ = some (.slice u4 l4 v4)) ∧ (u.cell? ⟨N + 1 + 1, 0, none⟩ = some (.int .i64 ck) ∧ u.cell? ⟨N + 1 + 1, 1, none⟩ = some (.int .i64 co) ∧ u.cell? ⟨N + 1 + 1, 2, none⟩ = some (.int .i64 cc) ∧ u.cell? ⟨N + 1 + 1, 3, none⟩ = some (.int .i64 cn) ∧ u.cell? ⟨N + 1 + 1, 4, none⟩ = some (.int .i64 p1) ∧ u.cell? ⟨N + 1 + 1, 5, none⟩ = some (.int .i64 p2) ∧ u.cell? ⟨N + 1 + 1, 6, none⟩ = some (.int .i64 p3) ∧ u.cell? ⟨N + 1 + 1, 7, none⟩ = some (.int .i64 p4)) ∧ (u.cell? ⟨A, 0, none⟩ = some (.int .i64 dk) ∧ u.cell? ⟨A, 1, none⟩ = some (.int .i64 dO) ∧ u.cell? ⟨A, 2, none⟩ = some (.int .i64 dc) ∧ u.cell? ⟨A, 3, none⟩ = some (.int .i64 dn) ∧ u.cell? ⟨A, 4, none⟩ = some (.int .i64 q1) ∧ u.cell? ⟨A, 5, none⟩ = some (.int .i64 q2) ∧ u.cell? ⟨A, 6, none⟩ = some (.int .i64 q3) ∧ u.cell? ⟨A, 7, none⟩ = some (.int .i64 q4)) ∧ (u.cell? ⟨B, 0, none⟩ = some (.int .i64 dk) ∧ u.cell? ⟨B, 1, none⟩ = some (.int .i64 dO) ∧ u.cell? ⟨B, 2, none⟩ = some (.int .i64 dc) ∧ u.cell? ⟨B, 3, none⟩ = some (.int .i64 dn) ∧ u.cell? ⟨B, 4, none⟩ = some (.int .i64 q1) ∧ u.cell? ⟨B, 5, none⟩ = some (.int .i64 q2) ∧ u.cell? ⟨B, 6, none⟩ = some (.int .i64 q3) ∧ u.cell? ⟨B, 7, none⟩ = some (.int .i64 q4))) (by kernel_rfl) (⟨HX5.out.one.cells, HX5.out.two.cells, HX5.out.inc.cells, HA5.out.cells, HB5.out.cells⟩) (fun hHeld => ?_)
  refine wpAnyH_take (i := 0) (oi := { dst := some 23, op := Op.load 27 (Operand.tmp 4), type := 27, pos := "law.go:26", after := #[], guard := none }) (v := ?_) rfl (by kernel_rfl) (by kernel_rfl) (by kernel_rfl) (fun _ _ _ h => h) (Or.inl ⟨by rfl, ?_⟩) hHeld ?_
  rotate_left 1
  · intro W hSw
    (try dsimp only at hSw)
    go_simp
    try with_reducible rfl
  try simp only [Act.put, List.setIfInBounds_toArray, List.set_cons_zero, List.set_cons_succ]
  refine wpAnyH_take (i := 2) (oi := { dst := some 25, op := Op.load 27 (Operand.tmp 4), type := 27, pos := "law.go:26", after := #[], guard := none }) (v := ?_) rfl (by kernel_rfl) (by kernel_rfl) (by kernel_rfl) (fun _ _ _ h => h) (Or.inl ⟨by rfl, ?_⟩) hHeld ?_
  rotate_left 1
  · intro W hSw
    (try dsimp only at hSw)
    go_simp
    try with_reducible rfl
  try simp only [Act.put, List.setIfInBounds_toArray, List.set_cons_zero, List.set_cons_succ]
  refine wpAnyH_ready (rs := [1]) (by kernel_rfl) (by simp) ?_
  refine AllReadyH.cons (o := { dst := some 24, op := Op.call { callee := Callee.value (Operand.func 14), args := #[Operand.tmp 23], argTypes := #[27] }, type := 4, pos := "law.go:26", after := #[{ on := 0, ground := Ground.data }], guard := none }) rfl (fun K7 hK7 => ?_) ?_
  · go_simp
    refine (HF1.out _ HX5.out.bel).mono ?_
    rintro e w6 ⟨rfl, hb⟩
    have HX6 := Lib.hid (HX5.out.keep hb)
    have HA6 := Lib.hid (HA5.out.keep hb)
    have HB6 := Lib.hid (HB5.out.keep hb)
    clear hb
    try dsimp only
    refine hK7.out _ _ (⟨HX6.out.one.cells, HX6.out.two.cells, HX6.out.inc.cells, HA6.out.cells, HB6.out.cells⟩) (fun hHeld => ?_)
    clear hK7 K7
    try simp only [Act.put, List.setIfInBounds_toArray, List.set_cons_zero, List.set_cons_succ]
    refine wpAnyH_ready (rs := [3]) (by kernel_rfl) (by simp) ?_
    refine AllReadyH.cons (o := { dst := some 26, op := Op.call { callee := Callee.value (Operand.func 15), args := #[Operand.tmp 25], argTypes := #[27] }, type := 4, pos := "law.go:26", after := #[{ on := 2, ground := Ground.data }, { on := 1, ground := Ground.chain }], guard := none }) rfl (fun K7 hK7 => ?_) ?_
    · go_simp
      refine (HF2.out _ HX6.out.bel).mono ?_
      rintro e w7 ⟨rfl, hb⟩
      have HX7 := Lib.hid (HX6.out.keep hb)
      have HA7 := Lib.hid (HA6.out.keep hb)
      have HB7 := Lib.hid (HB6.out.keep hb)
      clear hb
      try dsimp only
      refine hK7.out _ _ (⟨HX7.out.one.cells, HX7.out.two.cells, HX7.out.inc.cells, HA7.out.cells, HB7.out.cells⟩) (fun hHeld => ?_)
      clear hK7 K7
      try simp only [Act.put, List.setIfInBounds_toArray, List.set_cons_zero, List.set_cons_succ]
      refine wpAnyH_take (i := 4) (oi := { dst := some 27, op := Op.binOp BinOp.eql 4 (Operand.tmp 24) (Operand.tmp 26) 4, type := 4, pos := "law.go:26", after := #[{ on := 1, ground := Ground.data }, { on := 3, ground := Ground.data }], guard := none }) (v := ?_) rfl (by kernel_rfl) (by kernel_rfl) (by kernel_rfl) (fun _ _ _ h => h) (Or.inl ⟨by rfl, ?_⟩) hHeld ?_
      rotate_left 1
      · intro W hSw
        (try dsimp only at hSw)
        go_simp
        try with_reducible rfl
      try simp only [Act.put, List.setIfInBounds_toArray, List.set_cons_zero, List.set_cons_succ]
      refine wpAnyH_take (i := 5) (oi := { dst := some 28, op := Op.move (Operand.tmp 27), type := 4, pos := "law.go:26", after := #[{ on := 4, ground := Ground.data }, { on := 3, ground := Ground.chain }], guard := none }) (v := ?_) rfl (by kernel_rfl) (by kernel_rfl) (by kernel_rfl) (fun _ _ _ h => h) (Or.inl ⟨by rfl, ?_⟩) hHeld ?_
      rotate_left 1
      · intro W hSw
        (try dsimp only at hSw)
        go_simp
        try with_reducible rfl
      try simp only [Act.put, List.setIfInBounds_toArray, List.set_cons_zero, List.set_cons_succ]
      refine wpAnyH_take (i := 6) (oi := { dst := some 29, op := Op.load 27 (Operand.tmp 4), type := 27, pos := "law.go:26", after := #[{ on := 5, ground := Ground.guard }], guard := some (5, true) }) (v := ?_) rfl (by kernel_rfl) (by kernel_rfl) (by kernel_rfl) (fun _ _ _ h => h) (Or.inl ⟨by rfl, ?_⟩) hHeld ?_
      rotate_left 1
      · intro W hSw
        (try dsimp only at hSw)
        go_simp
        try with_reducible rfl
      try simp only [Act.put, List.setIfInBounds_toArray, List.set_cons_zero, List.set_cons_succ]
      refine wpAnyH_take (i := 7) (oi := { dst := some 30, op := Op.load 27 (Operand.tmp 5), type := 27, pos := "law.go:26", after := #[{ on := 5, ground := Ground.guard }], guard := some (5, true) }) (v := ?_) rfl (by kernel_rfl) (by kernel_rfl) (by kernel_rfl) (fun _ _ _ h => h) (Or.inl ⟨by rfl, ?_⟩) hHeld ?_
      rotate_left 1
      · intro W hSw
        (try dsimp only at hSw)
        go_simp
        try with_reducible rfl
      try simp only [Act.put, List.setIfInBounds_toArray, List.set_cons_zero, List.set_cons_succ]
      refine wpAnyH_take (i := 9) (oi := { dst := some 32, op := Op.load 27 (Operand.tmp 4), type := 27, pos := "law.go:26", after := #[{ on := 5, ground := Ground.guard }], guard := some (5, true) }) (v := ?_) rfl (by kernel_rfl) (by kernel_rfl) (by kernel_rfl) (fun _ _ _ h => h) (Or.inl ⟨by rfl, ?_⟩) hHeld ?_
      rotate_left 1
      · intro W hSw
        (try dsimp only at hSw)
        go_simp
        try with_reducible rfl
      try simp only [Act.put, List.setIfInBounds_toArray, List.set_cons_zero, List.set_cons_succ]
      refine wpAnyH_take (i := 10) (oi := { dst := some 33, op := Op.load 27 (Operand.tmp 5), type := 27, pos := "law.go:26", after := #[{ on := 5, ground := Ground.guard }], guard := some (5, true) }) (v := ?_) rfl (by kernel_rfl) (by kernel_rfl) (by kernel_rfl) (fun _ _ _ h => h) (Or.inl ⟨by rfl, ?_⟩) hHeld ?_
      rotate_left 1
      · intro W hSw
        (try dsimp only at hSw)
        go_simp
        try with_reducible rfl
      try simp only [Act.put, List.setIfInBounds_toArray, List.set_cons_zero, List.set_cons_succ]
      refine wpAnyH_ready (rs := [8]) (by kernel_rfl) (by simp) ?_
      refine AllReadyH.cons (o := { dst := some 31, op := Op.call { callee := Callee.value (Operand.func 16), args := #[Operand.tmp 29, Operand.tmp 30], argTypes := #[27, 27] }, type := 4, pos := "law.go:26", after := #[{ on := 6, ground := Ground.data }, { on := 7, ground := Ground.data }, { on := 5, ground := Ground.chain }, { on := 5, ground := Ground.guard }], guard := some (5, true) }) rfl (fun K7 hK7 => ?_) ?_
      · go_simp
        refine (HS1.out _ HX7.out.bel).mono ?_
        rintro e w8 ⟨rfl, hb⟩
        have HX8 := Lib.hid (HX7.out.keep hb)
        have HA8 := Lib.hid (HA7.out.keep hb)
        have HB8 := Lib.hid (HB7.out.keep hb)
        clear hb
        try dsimp only
        refine hK7.out _ _ (⟨HX8.out.one.cells, HX8.out.two.cells, HX8.out.inc.cells, HA8.out.cells, HB8.out.cells⟩) (fun hHeld => ?_)
        clear hK7 K7
        try simp only [Act.put, List.setIfInBounds_toArray, List.set_cons_zero, List.set_cons_succ]
        refine wpAnyH_ready (rs := [11]) (by kernel_rfl) (by simp) ?_
        refine AllReadyH.cons (o := { dst := some 34, op := Op.call { callee := Callee.value (Operand.func 17), args := #[Operand.tmp 32, Operand.tmp 33], argTypes := #[27, 27] }, type := 4, pos := "law.go:26", after := #[{ on := 9, ground := Ground.data }, { on := 10, ground := Ground.data }, { on := 8, ground := Ground.chain }, { on := 5, ground := Ground.guard }], guard := some (5, true) }) rfl (fun K7 hK7 => ?_) ?_
        · go_simp
          refine (HS2.out _ HX8.out.bel).mono ?_
          rintro e w9 ⟨rfl, hb⟩
          have HX9 := Lib.hid (HX8.out.keep hb)
          have HA9 := Lib.hid (HA8.out.keep hb)
          have HB9 := Lib.hid (HB8.out.keep hb)
          clear hb
          try dsimp only
          refine hK7.out _ _ (⟨HX9.out.one.cells, HX9.out.two.cells, HX9.out.inc.cells, HA9.out.cells, HB9.out.cells⟩) (fun hHeld => ?_)
          clear hK7 K7
          try simp only [Act.put, List.setIfInBounds_toArray, List.set_cons_zero, List.set_cons_succ]
          refine wpAnyH_take (i := 12) (oi := { dst := some 35, op := Op.binOp BinOp.eql 4 (Operand.tmp 31) (Operand.tmp 34) 4, type := 4, pos := "law.go:26", after := #[{ on := 8, ground := Ground.data }, { on := 11, ground := Ground.data }, { on := 5, ground := Ground.guard }], guard := some (5, true) }) (v := ?_) rfl (by kernel_rfl) (by kernel_rfl) (by kernel_rfl) (fun _ _ _ h => h) (Or.inl ⟨by rfl, ?_⟩) hHeld ?_
          rotate_left 1
          · intro W hSw
            (try dsimp only at hSw)
            go_simp
            try with_reducible rfl
          try simp only [Act.put, List.setIfInBounds_toArray, List.set_cons_zero, List.set_cons_succ]
          refine wpAnyH_take (i := 13) (oi := { dst := some 36, op := Op.pick (Operand.tmp 28) (Operand.tmp 35) (Operand.const (Value.bool false)), type := 4, pos := "law.go:26", after := #[{ on := 5, ground := Ground.data }, { on := 12, ground := Ground.data }], guard := none }) (v := ?_) rfl (by kernel_rfl) (by kernel_rfl) (by kernel_rfl) (fun _ _ _ h => h) (Or.inl ⟨by rfl, ?_⟩) hHeld ?_
          rotate_left 1
          · intro W hSw
            (try dsimp only at hSw)
            go_simp
            try with_reducible rfl
          try simp only [Act.put, List.setIfInBounds_toArray, List.set_cons_zero, List.set_cons_succ]
          refine wpAnyH_take (i := 14) (oi := { dst := some 37, op := Op.move (Operand.tmp 36), type := 4, pos := "law.go:26", after := #[{ on := 13, ground := Ground.data }, { on := 11, ground := Ground.chain }], guard := none }) (v := ?_) rfl (by kernel_rfl) (by kernel_rfl) (by kernel_rfl) (fun _ _ _ h => h) (Or.inl ⟨by rfl, ?_⟩) hHeld ?_
          rotate_left 1
          · intro W hSw
            (try dsimp only at hSw)
            go_simp
            try with_reducible rfl
          try simp only [Act.put, List.setIfInBounds_toArray, List.set_cons_zero, List.set_cons_succ]
          refine wpAnyH_take (i := 15) (oi := { dst := some 38, op := Op.fieldAddr 31 (Operand.tmp 6) 4, type := 0, pos := "law.go:26", after := #[{ on := 14, ground := Ground.guard }], guard := some (14, true) }) (v := ?_) rfl (by kernel_rfl) (by kernel_rfl) (by kernel_rfl) (fun _ _ _ h => h) (Or.inl ⟨by rfl, ?_⟩) hHeld ?_
          rotate_left 1
          · intro W hSw
            (try dsimp only at hSw)
            go_simp
            try with_reducible rfl
          try simp only [Act.put, List.setIfInBounds_toArray, List.set_cons_zero, List.set_cons_succ]
          refine wpAnyH_take (i := 16) (oi := { dst := some 39, op := Op.load 29 (Operand.tmp 38), type := 29, pos := "law.go:26", after := #[{ on := 15, ground := Ground.data }, { on := 14, ground := Ground.guard }], guard := some (14, true) }) (v := ?_) rfl (by kernel_rfl) (by kernel_rfl) (by kernel_rfl) (fun _ _ _ h => h) (Or.inl ⟨by rfl, ?_⟩) hHeld ?_
          rotate_left 1
          · intro W hSw
            (try dsimp only at hSw)
            go_simp
            try with_reducible rfl
          try simp only [Act.put, List.setIfInBounds_toArray, List.set_cons_zero, List.set_cons_succ]
          refine wpAnyH_take (i := 18) (oi := { dst := some 41, op := Op.fieldAddr 31 (Operand.tmp 6) 4, type := 0, pos := "law.go:26", after := #[{ on := 14, ground := Ground.guard }], guard := some (14, true) }) (v := ?_) rfl (by kernel_rfl) (by kernel_rfl) (by kernel_rfl) (fun _ _ _ h => h) (Or.inl ⟨by rfl, ?_⟩) hHeld ?_
          rotate_left 1
          · intro W hSw
            (try dsimp only at hSw)
            go_simp
            try with_reducible rfl
          try simp only [Act.put, List.setIfInBounds_toArray, List.set_cons_zero, List.set_cons_succ]
          refine wpAnyH_take (i := 19) (oi := { dst := some 42, op := Op.load 29 (Operand.tmp 41), type := 29, pos := "law.go:26", after := #[{ on := 18, ground := Ground.data }, { on := 14, ground := Ground.guard }], guard := some (14, true) }) (v := ?_) rfl (by kernel_rfl) (by kernel_rfl) (by kernel_rfl) (fun _ _ _ h => h) (Or.inl ⟨by rfl, ?_⟩) hHeld ?_
          rotate_left 1
          · intro W hSw
            (try dsimp only at hSw)
            go_simp
            try with_reducible rfl
          try simp only [Act.put, List.setIfInBounds_toArray, List.set_cons_zero, List.set_cons_succ]
          refine wpAnyH_ready (rs := [17]) (by kernel_rfl) (by simp) ?_
          refine AllReadyH.cons (o := { dst := some 40, op := Op.call { callee := Callee.value (Operand.func 18), args := #[Operand.tmp 39], argTypes := #[29] }, type := 4, pos := "law.go:26", after := #[{ on := 16, ground := Ground.data }, { on := 14, ground := Ground.chain }, { on := 14, ground := Ground.guard }], guard := some (14, true) }) rfl (fun K7 hK7 => ?_) ?_
          · go_simp
            refine (HP1.out _).mono ?_
            rintro e w10 ⟨rfl, hb⟩
            have HX10 := Lib.hid (HX9.out.keep hb)
            have HA10 := Lib.hid (HA9.out.keep hb)
            have HB10 := Lib.hid (HB9.out.keep hb)
            clear hb
            try dsimp only
            refine hK7.out _ _ (⟨HX10.out.one.cells, HX10.out.two.cells, HX10.out.inc.cells, HA10.out.cells, HB10.out.cells⟩) (fun hHeld => ?_)
            clear hK7 K7
            try simp only [Act.put, List.setIfInBounds_toArray, List.set_cons_zero, List.set_cons_succ]
            refine wpAnyH_ready (rs := [20]) (by kernel_rfl) (by simp) ?_
            refine AllReadyH.cons (o := { dst := some 43, op := Op.call { callee := Callee.value (Operand.func 19), args := #[Operand.tmp 42], argTypes := #[29] }, type := 4, pos := "law.go:26", after := #[{ on := 19, ground := Ground.data }, { on := 17, ground := Ground.chain }, { on := 14, ground := Ground.guard }], guard := some (14, true) }) rfl (fun K7 hK7 => ?_) ?_
            · go_simp
              refine (HP2.out _).mono ?_
              rintro e w11 ⟨rfl, hb⟩
              have HX11 := Lib.hid (HX10.out.keep hb)
              have HA11 := Lib.hid (HA10.out.keep hb)
              have HB11 := Lib.hid (HB10.out.keep hb)
              clear hb
              try dsimp only
              refine hK7.out _ _ (⟨HX11.out.one.cells, HX11.out.two.cells, HX11.out.inc.cells, HA11.out.cells, HB11.out.cells⟩) (fun hHeld => ?_)
              clear hK7 K7
              try simp only [Act.put, List.setIfInBounds_toArray, List.set_cons_zero, List.set_cons_succ]
              refine wpAnyH_take (i := 21) (oi := { dst := some 44, op := Op.binOp BinOp.eql 4 (Operand.tmp 40) (Operand.tmp 43) 4, type := 4, pos := "law.go:26", after := #[{ on := 17, ground := Ground.data }, { on := 20, ground := Ground.data }, { on := 14, ground := Ground.guard }], guard := some (14, true) }) (v := ?_) rfl (by kernel_rfl) (by kernel_rfl) (by kernel_rfl) (fun _ _ _ h => h) (Or.inl ⟨by rfl, ?_⟩) hHeld ?_
              rotate_left 1
              · intro W hSw
                (try dsimp only at hSw)
                go_simp
                try with_reducible rfl
              try simp only [Act.put, List.setIfInBounds_toArray, List.set_cons_zero, List.set_cons_succ]
              refine wpAnyH_take (i := 22) (oi := { dst := some 45, op := Op.pick (Operand.tmp 37) (Operand.tmp 44) (Operand.const (Value.bool false)), type := 4, pos := "law.go:26", after := #[{ on := 14, ground := Ground.data }, { on := 21, ground := Ground.data }], guard := none }) (v := ?_) rfl (by kernel_rfl) (by kernel_rfl) (by kernel_rfl) (fun _ _ _ h => h) (Or.inl ⟨by rfl, ?_⟩) hHeld ?_
              rotate_left 1
              · intro W hSw
                (try dsimp only at hSw)
                go_simp
                try with_reducible rfl
              try simp only [Act.put, List.setIfInBounds_toArray, List.set_cons_zero, List.set_cons_succ]
              refine wpAnyH_take (i := 23) (oi := { dst := some 46, op := Op.move (Operand.tmp 45), type := 4, pos := "law.go:26", after := #[{ on := 22, ground := Ground.data }, { on := 20, ground := Ground.chain }], guard := none }) (v := ?_) rfl (by kernel_rfl) (by kernel_rfl) (by kernel_rfl) (fun _ _ _ h => h) (Or.inl ⟨by rfl, ?_⟩) hHeld ?_
              rotate_left 1
              · intro W hSw
                (try dsimp only at hSw)
                go_simp
                try with_reducible rfl
              try simp only [Act.put, List.setIfInBounds_toArray, List.set_cons_zero, List.set_cons_succ]
              refine wpAnyH_take (i := 24) (oi := { dst := some 47, op := Op.load 31 (Operand.tmp 6), type := 31, pos := "law.go:26", after := #[{ on := 23, ground := Ground.guard }], guard := some (23, true) }) (v := ?_) rfl (by kernel_rfl) (by kernel_rfl) (by kernel_rfl) (fun _ _ _ h => h) (Or.inl ⟨by rfl, ?_⟩) hHeld ?_
              rotate_left 1
              · intro W hSw
                (try dsimp only at hSw)
                go_simp
                try with_reducible rfl
              try simp only [Act.put, List.setIfInBounds_toArray, List.set_cons_zero, List.set_cons_succ]
              refine wpAnyH_take (i := 26) (oi := { dst := some 49, op := Op.load 31 (Operand.tmp 6), type := 31, pos := "law.go:26", after := #[{ on := 23, ground := Ground.guard }], guard := some (23, true) }) (v := ?_) rfl (by kernel_rfl) (by kernel_rfl) (by kernel_rfl) (fun _ _ _ h => h) (Or.inl ⟨by rfl, ?_⟩) hHeld ?_
              rotate_left 1
              · intro W hSw
                (try dsimp only at hSw)
                go_simp
                try with_reducible rfl
              try simp only [Act.put, List.setIfInBounds_toArray, List.set_cons_zero, List.set_cons_succ]
              refine wpAnyH_ready (rs := [25]) (by kernel_rfl) (by simp) ?_
              refine AllReadyH.cons (o := { dst := some 48, op := Op.call { callee := Callee.value (Operand.func 20), args := #[Operand.tmp 47], argTypes := #[31] }, type := 4, pos := "law.go:26", after := #[{ on := 24, ground := Ground.data }, { on := 23, ground := Ground.chain }, { on := 23, ground := Ground.guard }], guard := some (23, true) }) rfl (fun K7 hK7 => ?_) ?_
              · go_simp
                refine (HI1.out _).mono ?_
                rintro e w12 ⟨rfl, hb⟩
                have HX12 := Lib.hid (HX11.out.keep hb)
                have HA12 := Lib.hid (HA11.out.keep hb)
                have HB12 := Lib.hid (HB11.out.keep hb)
                clear hb
                try dsimp only
                refine hK7.out _ _ (⟨HX12.out.one.cells, HX12.out.two.cells, HX12.out.inc.cells, HA12.out.cells, HB12.out.cells⟩) (fun hHeld => ?_)
                clear hK7 K7
                try simp only [Act.put, List.setIfInBounds_toArray, List.set_cons_zero, List.set_cons_succ]
                refine wpAnyH_ready (rs := [27]) (by kernel_rfl) (by simp) ?_
                refine AllReadyH.cons (o := { dst := some 50, op := Op.call { callee := Callee.value (Operand.func 21), args := #[Operand.tmp 49], argTypes := #[31] }, type := 4, pos := "law.go:26", after := #[{ on := 26, ground := Ground.data }, { on := 25, ground := Ground.chain }, { on := 23, ground := Ground.guard }], guard := some (23, true) }) rfl (fun K7 hK7 => ?_) ?_
                · go_simp
                  refine (HI2.out _).mono ?_
                  rintro e w13 ⟨rfl, hb⟩
                  have HX13 := Lib.hid (HX12.out.keep hb)
                  have HA13 := Lib.hid (HA12.out.keep hb)
                  have HB13 := Lib.hid (HB12.out.keep hb)
                  clear hb
                  try dsimp only
                  refine hK7.out _ _ (⟨HX13.out.one.cells, HX13.out.two.cells, HX13.out.inc.cells, HA13.out.cells, HB13.out.cells⟩) (fun hHeld => ?_)
                  clear hK7 K7
                  try simp only [Act.put, List.setIfInBounds_toArray, List.set_cons_zero, List.set_cons_succ]
                  refine wpAnyH_take (i := 28) (oi := { dst := some 51, op := Op.binOp BinOp.eql 4 (Operand.tmp 48) (Operand.tmp 50) 4, type := 4, pos := "law.go:26", after := #[{ on := 25, ground := Ground.data }, { on := 27, ground := Ground.data }, { on := 23, ground := Ground.guard }], guard := some (23, true) }) (v := ?_) rfl (by kernel_rfl) (by kernel_rfl) (by kernel_rfl) (fun _ _ _ h => h) (Or.inl ⟨by rfl, ?_⟩) hHeld ?_
                  rotate_left 1
                  · intro W hSw
                    (try dsimp only at hSw)
                    go_simp
                    try with_reducible rfl
                  try simp only [Act.put, List.setIfInBounds_toArray, List.set_cons_zero, List.set_cons_succ]
                  refine wpAnyH_take (i := 29) (oi := { dst := some 52, op := Op.pick (Operand.tmp 46) (Operand.tmp 51) (Operand.const (Value.bool false)), type := 4, pos := "law.go:26", after := #[{ on := 23, ground := Ground.data }, { on := 28, ground := Ground.data }], guard := none }) (v := ?_) rfl (by kernel_rfl) (by kernel_rfl) (by kernel_rfl) (fun _ _ _ h => h) (Or.inl ⟨by rfl, ?_⟩) hHeld ?_
                  rotate_left 1
                  · intro W hSw
                    (try dsimp only at hSw)
                    go_simp
                    try with_reducible rfl
                  try simp only [Act.put, List.setIfInBounds_toArray, List.set_cons_zero, List.set_cons_succ]
                  refine wpAnyH_take (i := 30) (oi := { dst := some 53, op := Op.move (Operand.tmp 52), type := 4, pos := "law.go:26", after := #[{ on := 29, ground := Ground.data }, { on := 27, ground := Ground.chain }], guard := none }) (v := ?_) rfl (by kernel_rfl) (by kernel_rfl) (by kernel_rfl) (fun _ _ _ h => h) (Or.inl ⟨by rfl, ?_⟩) hHeld ?_
                  rotate_left 1
                  · intro W hSw
                    (try dsimp only at hSw)
                    go_simp
                    try with_reducible rfl
                  try simp only [Act.put, List.setIfInBounds_toArray, List.set_cons_zero, List.set_cons_succ]
                  refine wpAnyH_take (i := 31) (oi := { dst := some 54, op := Op.load 31 (Operand.tmp 6), type := 31, pos := "law.go:26", after := #[{ on := 30, ground := Ground.guard }], guard := some (30, true) }) (v := ?_) rfl (by kernel_rfl) (by kernel_rfl) (by kernel_rfl) (fun _ _ _ h => h) (Or.inl ⟨by rfl, ?_⟩) hHeld ?_
                  rotate_left 1
                  · intro W hSw
                    (try dsimp only at hSw)
                    go_simp
                    try with_reducible rfl
                  try simp only [Act.put, List.setIfInBounds_toArray, List.set_cons_zero, List.set_cons_succ]
                  refine wpAnyH_take (i := 33) (oi := { dst := some 56, op := Op.load 31 (Operand.tmp 6), type := 31, pos := "law.go:26", after := #[{ on := 30, ground := Ground.guard }], guard := some (30, true) }) (v := ?_) rfl (by kernel_rfl) (by kernel_rfl) (by kernel_rfl) (fun _ _ _ h => h) (Or.inl ⟨by rfl, ?_⟩) hHeld ?_
                  rotate_left 1
                  · intro W hSw
                    (try dsimp only at hSw)
                    go_simp
                    try with_reducible rfl
                  try simp only [Act.put, List.setIfInBounds_toArray, List.set_cons_zero, List.set_cons_succ]
                  refine wpAnyH_ready (rs := [32]) (by kernel_rfl) (by simp) ?_
                  refine AllReadyH.cons (o := { dst := some 55, op := Op.call { callee := Callee.value (Operand.func 22), args := #[Operand.tmp 54], argTypes := #[31] }, type := 9, pos := "law.go:26", after := #[{ on := 31, ground := Ground.data }, { on := 30, ground := Ground.chain }, { on := 30, ground := Ground.guard }], guard := some (30, true) }) rfl (fun K7 hK7 => ?_) ?_
                  · go_simp
                    refine (HE1.out _).mono ?_
                    rintro e w14 ⟨rfl, hb⟩
                    have HX14 := Lib.hid (HX13.out.keep hb)
                    have HA14 := Lib.hid (HA13.out.keep hb)
                    have HB14 := Lib.hid (HB13.out.keep hb)
                    clear hb
                    try dsimp only
                    refine hK7.out _ _ (⟨HX14.out.one.cells, HX14.out.two.cells, HX14.out.inc.cells, HA14.out.cells, HB14.out.cells⟩) (fun hHeld => ?_)
                    clear hK7 K7
                    try simp only [Act.put, List.setIfInBounds_toArray, List.set_cons_zero, List.set_cons_succ]
                    refine wpAnyH_ready (rs := [34]) (by kernel_rfl) (by simp) ?_
                    refine AllReadyH.cons (o := { dst := some 57, op := Op.call { callee := Callee.value (Operand.func 23), args := #[Operand.tmp 56], argTypes := #[31] }, type := 9, pos := "law.go:26", after := #[{ on := 33, ground := Ground.data }, { on := 32, ground := Ground.chain }, { on := 30, ground := Ground.guard }], guard := some (30, true) }) rfl (fun K7 hK7 => ?_) ?_
                    · go_simp
                      refine (HE2.out _).mono ?_
                      rintro e w15 ⟨rfl, hb⟩
                      have HX15 := Lib.hid (HX14.out.keep hb)
                      have HA15 := Lib.hid (HA14.out.keep hb)
                      have HB15 := Lib.hid (HB14.out.keep hb)
                      clear hb
                      try dsimp only
                      refine hK7.out _ _ (⟨HX15.out.one.cells, HX15.out.two.cells, HX15.out.inc.cells, HA15.out.cells, HB15.out.cells⟩) (fun hHeld => ?_)
                      clear hK7 K7
                      try simp only [Act.put, List.setIfInBounds_toArray, List.set_cons_zero, List.set_cons_succ]
                      refine wpAnyH_take (i := 35) (oi := { dst := some 58, op := Op.binOp BinOp.eql 9 (Operand.tmp 55) (Operand.tmp 57) 9, type := 4, pos := "law.go:26", after := #[{ on := 32, ground := Ground.data }, { on := 34, ground := Ground.data }, { on := 30, ground := Ground.guard }], guard := some (30, true) }) (v := ?_) rfl (by kernel_rfl) (by kernel_rfl) (by kernel_rfl) (fun _ _ _ h => h) (Or.inl ⟨by rfl, ?_⟩) hHeld ?_
                      rotate_left 1
                      · intro W hSw
                        (try dsimp only at hSw)
                        go_simp
                        try with_reducible rfl
                      try simp only [Act.put, List.setIfInBounds_toArray, List.set_cons_zero, List.set_cons_succ]
                      refine wpAnyH_take (i := 36) (oi := { dst := some 59, op := Op.pick (Operand.tmp 53) (Operand.tmp 58) (Operand.const (Value.bool false)), type := 4, pos := "law.go:26", after := #[{ on := 30, ground := Ground.data }, { on := 35, ground := Ground.data }], guard := none }) (v := ?_) rfl (by kernel_rfl) (by kernel_rfl) (by kernel_rfl) (fun _ _ _ h => h) (Or.inl ⟨by rfl, ?_⟩) hHeld ?_
                      rotate_left 1
                      · intro W hSw
                        (try dsimp only at hSw)
                        go_simp
                        try with_reducible rfl
                      try simp only [Act.put, List.setIfInBounds_toArray, List.set_cons_zero, List.set_cons_succ]
                      refine wpAnyH_take (i := 37) (oi := { dst := some 60, op := Op.move (Operand.tmp 59), type := 4, pos := "law.go:26", after := #[{ on := 36, ground := Ground.data }, { on := 34, ground := Ground.chain }], guard := none }) (v := ?_) rfl (by kernel_rfl) (by kernel_rfl) (by kernel_rfl) (fun _ _ _ h => h) (Or.inl ⟨by rfl, ?_⟩) hHeld ?_
                      rotate_left 1
                      · intro W hSw
                        (try dsimp only at hSw)
                        go_simp
                        try with_reducible rfl
                      try simp only [Act.put, List.setIfInBounds_toArray, List.set_cons_zero, List.set_cons_succ]
                      refine wpAnyH_take (i := 38) (oi := { dst := some 61, op := Op.load 31 (Operand.tmp 9), type := 31, pos := "law.go:26", after := #[{ on := 37, ground := Ground.guard }], guard := some (37, true) }) (v := ?_) rfl (by kernel_rfl) (by kernel_rfl) (by kernel_rfl) (fun _ _ _ h => h) (Or.inl ⟨by rfl, ?_⟩) hHeld ?_
                      rotate_left 1
                      · intro W hSw
                        (try dsimp only at hSw)
                        go_simp
                        try with_reducible rfl
                      try simp only [Act.put, List.setIfInBounds_toArray, List.set_cons_zero, List.set_cons_succ]
                      refine wpAnyH_take (i := 39) (oi := { dst := some 62, op := Op.load 31 (Operand.tmp 11), type := 31, pos := "law.go:26", after := #[{ on := 37, ground := Ground.guard }], guard := some (37, true) }) (v := ?_) rfl (by kernel_rfl) (by kernel_rfl) (by kernel_rfl) (fun _ _ _ h => h) (Or.inl ⟨by rfl, ?_⟩) hHeld ?_
                      rotate_left 1
                      · intro W hSw
                        (try dsimp only at hSw)
                        go_simp
                        try with_reducible rfl
                      try simp only [Act.put, List.setIfInBounds_toArray, List.set_cons_zero, List.set_cons_succ]
                      refine wpAnyH_take (i := 40) (oi := { dst := some 63, op := Op.binOp BinOp.eql 31 (Operand.tmp 61) (Operand.tmp 62) 31, type := 4, pos := "law.go:26", after := #[{ on := 38, ground := Ground.data }, { on := 39, ground := Ground.data }, { on := 37, ground := Ground.guard }], guard := some (37, true) }) (v := ?_) rfl (by kernel_rfl) (by kernel_rfl) (by kernel_rfl) (fun _ _ _ h => h) (Or.inl ⟨by rfl, ?_⟩) hHeld ?_
                      rotate_left 1
                      · intro W hSw
                        (try dsimp only at hSw)
                        go_simp
                        try with_reducible rfl
                      try simp only [Act.put, List.setIfInBounds_toArray, List.set_cons_zero, List.set_cons_succ]
                      refine wpAnyH_take (i := 41) (oi := { dst := some 64, op := Op.pick (Operand.tmp 60) (Operand.tmp 63) (Operand.const (Value.bool false)), type := 4, pos := "law.go:26", after := #[{ on := 37, ground := Ground.data }, { on := 40, ground := Ground.data }], guard := none }) (v := ?_) rfl (by kernel_rfl) (by kernel_rfl) (by kernel_rfl) (fun _ _ _ h => h) (Or.inl ⟨by rfl, ?_⟩) hHeld ?_
                      rotate_left 1
                      · intro W hSw
                        (try dsimp only at hSw)
                        go_simp
                        try with_reducible rfl
                      try simp only [Act.put, List.setIfInBounds_toArray, List.set_cons_zero, List.set_cons_succ]
                      refine wpAnyH_take (i := 42) (oi := { dst := some 65, op := Op.move (Operand.tmp 64), type := 4, pos := "law.go:26", after := #[{ on := 41, ground := Ground.data }, { on := 37, ground := Ground.chain }], guard := none }) (v := ?_) rfl (by kernel_rfl) (by kernel_rfl) (by kernel_rfl) (fun _ _ _ h => h) (Or.inl ⟨by rfl, ?_⟩) hHeld ?_
                      rotate_left 1
                      · intro W hSw
                        (try dsimp only at hSw)
                        go_simp
                        try with_reducible rfl
                      try simp only [Act.put, List.setIfInBounds_toArray, List.set_cons_zero, List.set_cons_succ]
                      refine wpAnyH_take (i := 43) (oi := { dst := some 66, op := Op.move (Operand.tmp 10), type := 32, pos := "law.go:26", after := #[{ on := 42, ground := Ground.guard }], guard := some (42, true) }) (v := ?_) rfl (by kernel_rfl) (by kernel_rfl) (by kernel_rfl) (fun _ _ _ h => h) (Or.inl ⟨by rfl, ?_⟩) hHeld ?_
                      rotate_left 1
                      · intro W hSw
                        (try dsimp only at hSw)
                        go_simp
                        try with_reducible rfl
                      try simp only [Act.put, List.setIfInBounds_toArray, List.set_cons_zero, List.set_cons_succ]
                      refine wpAnyH_take (i := 44) (oi := { dst := some 67, op := Op.move (Operand.tmp 12), type := 3, pos := "law.go:26", after := #[{ on := 42, ground := Ground.guard }], guard := some (42, true) }) (v := ?_) rfl (by kernel_rfl) (by kernel_rfl) (by kernel_rfl) (fun _ _ _ h => h) (Or.inl ⟨by rfl, ?_⟩) hHeld ?_
                      rotate_left 1
                      · intro W hSw
                        (try dsimp only at hSw)
                        go_simp
                        try with_reducible rfl
                      try simp only [Act.put, List.setIfInBounds_toArray, List.set_cons_zero, List.set_cons_succ]
                      refine wpAnyH_take (i := 45) (oi := { dst := some 68, op := Op.binOp BinOp.eql 3 (Operand.tmp 66) (Operand.tmp 67) 3, type := 4, pos := "law.go:26", after := #[{ on := 43, ground := Ground.data }, { on := 44, ground := Ground.data }, { on := 42, ground := Ground.guard }], guard := some (42, true) }) (v := ?_) rfl (by kernel_rfl) (by kernel_rfl) (by kernel_rfl) (fun _ _ _ h => h) (Or.inl ⟨by rfl, ?_⟩) hHeld ?_
                      rotate_left 1
                      · intro W hSw
                        (try dsimp only at hSw)
                        go_simp
                        try with_reducible rfl
                      try simp only [Act.put, List.setIfInBounds_toArray, List.set_cons_zero, List.set_cons_succ]
                      refine wpAnyH_take (i := 46) (oi := { dst := some 69, op := Op.pick (Operand.tmp 65) (Operand.tmp 68) (Operand.const (Value.bool false)), type := 4, pos := "law.go:26", after := #[{ on := 42, ground := Ground.data }, { on := 45, ground := Ground.data }], guard := none }) (v := ?_) rfl (by kernel_rfl) (by kernel_rfl) (by kernel_rfl) (fun _ _ _ h => h) (Or.inl ⟨by rfl, ?_⟩) hHeld ?_
                      rotate_left 1
                      · intro W hSw
                        (try dsimp only at hSw)
                        go_simp
                        try with_reducible rfl
                      try simp only [Act.put, List.setIfInBounds_toArray, List.set_cons_zero, List.set_cons_succ]
                      refine wpAnyH_take (i := 47) (oi := { dst := some 70, op := Op.move (Operand.tmp 69), type := 4, pos := "law.go:26", after := #[{ on := 46, ground := Ground.data }, { on := 42, ground := Ground.chain }], guard := none }) (v := ?_) rfl (by kernel_rfl) (by kernel_rfl) (by kernel_rfl) (fun _ _ _ h => h) (Or.inl ⟨by rfl, ?_⟩) hHeld ?_
                      rotate_left 1
                      · intro W hSw
                        (try dsimp only at hSw)
                        go_simp
                        try with_reducible rfl
                      try simp only [Act.put, List.setIfInBounds_toArray, List.set_cons_zero, List.set_cons_succ]
                      refine wpAnyH_ready (rs := [48]) (by kernel_rfl) (by simp) ?_
                      refine AllReadyH.cons (o := { dst := some 71, op := Op.call { callee := Callee.value (Operand.func 24), args := #[], argTypes := #[] }, type := 4, pos := "law.go:26", after := #[{ on := 47, ground := Ground.chain }, { on := 47, ground := Ground.guard }], guard := some (47, true) }) rfl (fun K7 hK7 => ?_) ?_
                      · go_simp
                        refine (awake_any _).mono ?_
                        rintro e w16 ⟨rfl, hb⟩
                        have HX16 := Lib.hid (HX15.out.keep hb)
                        have HA16 := Lib.hid (HA15.out.keep hb)
                        have HB16 := Lib.hid (HB15.out.keep hb)
                        clear hb
                        try dsimp only
                        refine hK7.out _ _ (⟨HX16.out.one.cells, HX16.out.two.cells, HX16.out.inc.cells, HA16.out.cells, HB16.out.cells⟩) (fun hHeld => ?_)
                        clear hK7 K7
                        try simp only [Act.put, List.setIfInBounds_toArray, List.set_cons_zero, List.set_cons_succ]
                        refine wpAnyH_take (i := 49) (oi := { dst := some 72, op := Op.pick (Operand.tmp 70) (Operand.tmp 71) (Operand.const (Value.bool false)), type := 4, pos := "law.go:26", after := #[{ on := 47, ground := Ground.data }, { on := 48, ground := Ground.data }], guard := none }) (v := ?_) rfl (by kernel_rfl) (by kernel_rfl) (by kernel_rfl) (fun _ _ _ h => h) (Or.inl ⟨by rfl, ?_⟩) hHeld ?_
                        rotate_left 1
                        · intro W hSw
                          (try dsimp only at hSw)
                          go_simp
                          try with_reducible rfl
                        try simp only [Act.put, List.setIfInBounds_toArray, List.set_cons_zero, List.set_cons_succ]
                        refine wpAnyH_take (i := 50) (oi := { dst := some 8, op := Op.assign (Operand.tmp 72), type := 4, pos := "law.go:26", after := #[{ on := 49, ground := Ground.data }, { on := 48, ground := Ground.chain }, { on := 0, ground := Ground.phase }, { on := 1, ground := Ground.phase }, { on := 2, ground := Ground.phase }, { on := 3, ground := Ground.phase }, { on := 4, ground := Ground.phase }, { on := 5, ground := Ground.phase }, { on := 6, ground := Ground.phase }, { on := 7, ground := Ground.phase }, { on := 8, ground := Ground.phase }, { on := 9, ground := Ground.phase }, { on := 10, ground := Ground.phase }, { on := 11, ground := Ground.phase }, { on := 12, ground := Ground.phase }, { on := 13, ground := Ground.phase }, { on := 14, ground := Ground.phase }, { on := 15, ground := Ground.phase }, { on := 16, ground := Ground.phase }, { on := 17, ground := Ground.phase }, { on := 18, ground := Ground.phase }, { on := 19, ground := Ground.phase }, { on := 20, ground := Ground.phase }, { on := 21, ground := Ground.phase }, { on := 22, ground := Ground.phase }, { on := 23, ground := Ground.phase }, { on := 24, ground := Ground.phase }, { on := 25, ground := Ground.phase }, { on := 26, ground := Ground.phase }, { on := 27, ground := Ground.phase }, { on := 28, ground := Ground.phase }, { on := 29, ground := Ground.phase }, { on := 30, ground := Ground.phase }, { on := 31, ground := Ground.phase }, { on := 32, ground := Ground.phase }, { on := 33, ground := Ground.phase }, { on := 34, ground := Ground.phase }, { on := 35, ground := Ground.phase }, { on := 36, ground := Ground.phase }, { on := 37, ground := Ground.phase }, { on := 38, ground := Ground.phase }, { on := 39, ground := Ground.phase }, { on := 40, ground := Ground.phase }, { on := 41, ground := Ground.phase }, { on := 42, ground := Ground.phase }, { on := 43, ground := Ground.phase }, { on := 44, ground := Ground.phase }, { on := 45, ground := Ground.phase }, { on := 46, ground := Ground.phase }, { on := 47, ground := Ground.phase }, { on := 48, ground := Ground.phase }, { on := 49, ground := Ground.phase }], guard := none }) (v := ?_) rfl (by kernel_rfl) (by kernel_rfl) (by kernel_rfl) (fun _ _ _ h => h) (Or.inl ⟨by rfl, ?_⟩) hHeld ?_
                        rotate_left 1
                        · intro W hSw
                          (try dsimp only at hSw)
                          go_simp
                          try with_reducible rfl
                        try simp only [Act.put, List.setIfInBounds_toArray, List.set_cons_zero, List.set_cons_succ]
                        refine wpAnyH_done (by kernel_rfl) ?_ _
                        clear hHeld
                        go_wp2
                        go_ret
                        exact ⟨rfl, HX16.out.bel⟩
                      exact AllReadyH.nil
                    exact AllReadyH.nil
                  exact AllReadyH.nil
                exact AllReadyH.nil
              exact AllReadyH.nil
            exact AllReadyH.nil
          exact AllReadyH.nil
        exact AllReadyH.nil
      exact AllReadyH.nil
    exact AllReadyH.nil
  exact AllReadyH.nil
  --R3E

--LIFT
theorem str_bulk {H : Type} (l : List UInt8) (x y z : DataW H) : l.length ≤ Rows.uptoBulkAll [x, y, z, (DataW.lit (.string l))] := by
  simp only [Rows.uptoBulkAll, Rows.uptoBulk]
  omega
set_option maxRecDepth 100000 in
theorem liftedFits (os : Os) (started : os.Started) (H : Type) (enc : TypeId × Value → H) (F : Stop.Interp) :
    ReturnsInHanded {} Tryz.checked os 3 .any ((Rows.OpenSpec.upto Rows.mapsFitsSpec).pre6 enc Tryz.prog Tryz.f3 Rows.mapsFitsUptoRow.domain false) (((Rows.OpenSpec.upto Rows.mapsFitsSpec).at F).post enc Tryz.prog Tryz.f3 false true false false) := by
  refine lawUpto (C := Tryz.checked) (s := Rows.mapsFitsSpec) own started (by kernel_rfl) Tryz.func3
    (OpenSpec.witness (enc := enc) (C := Tryz.checked) (s := Rows.OpenSpec.upto Rows.mapsFitsSpec) (k := Rows.uptoSmall) rfl false ⟨#[], #[.agg #[.int .i64 0, .slice none 0 0, .slice none 0 0, .slice none 0 0, .slice none 0 0], .agg #[.int .i64 0, .slice none 0 0, .slice none 0 0, .slice none 0 0, .slice none 0 0], .agg #[.int .i64 0, .int .i64 0, .int .i64 0, .int .i64 0, .int .i64 0, .int .i64 0, .int .i64 0, .int .i64 0], .string .empty], []⟩ 8 (by kernel_rfl) (by kernel_rfl) (by kernel_rfl)
      (x := ([.agg [.lit (.int .i64 0), .nil, .nil, .nil, .nil], .agg [.lit (.int .i64 0), .nil, .nil, .nil, .nil], .agg [.lit (.int .i64 0), .lit (.int .i64 0), .lit (.int .i64 0), .lit (.int .i64 0), .agg [.lit (.int .i64 0), .lit (.int .i64 0), .lit (.int .i64 0), .lit (.int .i64 0)]], .lit (.string [])], [], [])) (by kernel_rfl) rfl (by kernel_rfl)) laidOut (by kernel_rfl) 4 Tryz.underlying4 (by kernel_rfl) rfl ?_ ?_
  · intro ds hd
    match ds, hd with
    | [_, _, _, _], _ => rfl
  · intro W base args ds ps hg hb
    have hA : DataW.TrodAll enc Tryz.prog W 0 (fun _ => true) true Tryz.f3.params.toList args.toList ds ps := hg.read
    have hval : ∀ (j : Nat) t v, Tryz.f3.params[j]? = some t → args[j]? = some v → Value.okWide Tryz.prog W .any base t v := hg.ok
    rw [Tryz.params3] at hA hval
    obtain ⟨v0, vs0, d0, ds0, p0, q0, hargs, rfl, rfl, h0, r0⟩ := trodAll_cons hA
    obtain ⟨v1, vs1, d1, ds1, p1, q1, rfl, rfl, rfl, h1, r1⟩ := trodAll_cons r0
    obtain ⟨v2, vs2, d2, ds2, p2, q2, rfl, rfl, rfl, h2, r2⟩ := trodAll_cons r1
    obtain ⟨v3, vs3, d3, ds3, p3, q3, rfl, rfl, rfl, h3, r3⟩ := trodAll_cons r2
    obtain ⟨rfl, rfl, rfl⟩ := trodAll_nil r3
    obtain rfl : args = #[v0, v1, v2, v3] := by cases args; simp_all
    obtain ⟨m, hm⟩ := map_open (hval 0 27 v0 rfl rfl) h0
    obtain ⟨n, hn⟩ := map_open (hval 1 27 v1 rfl rfl) h1
    obtain ⟨c, rfl, -⟩ := inc_open (hval 2 31 v2 rfl rfl) h2
    obtain ⟨s, rfl, rfl, rfl, hs⟩ := open_string Tryz.underlying9 (hval 3 9 v3 rfl rfl) h3
    have hsl := str_bulk s.data.toList d0 d1 d2
    have hsz : s.size ≤ 100000000000 := by
      have : s.data.toList.length = s.size := Array.length_toList
      omega
    exact walkFits v0 v1 m n c s W hm hn hsz

theorem fits_holds : Rows.MapsFitsUptoSaid :=
  OpenClaim.holds_of_cond 3 Tryz.f3 rfl rfl rfl rfl rfl rfl rfl ⟨rfl, rfl, rfl, rfl, rfl⟩ rfl rfl rfl rfl rfl (by kernel_rfl) Tryz.func3 (by kernel_rfl)
    (of_decide_eq_true (by kernel_rfl)) (by unfold Func.isWrapper; first | (rw [if_pos (by decide +kernel)]; kernel_rfl) | (rw [if_neg (by decide +kernel)]; exact ⟨rfl, rfl⟩))
    (fun os started H enc _ F => liftedFits os started H enc F)

#print axioms fits_holds
end Go.Proofs.YtoeklnmmnmmjeaaGreat.crush
