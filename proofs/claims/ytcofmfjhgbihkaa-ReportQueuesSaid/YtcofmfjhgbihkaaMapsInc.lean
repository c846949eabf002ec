/- Changes: their numbers, and whether they are ones. -/
import Derived.Test.YtcofmfjhgbihkaaRows
import Derived.Test.YtcofmfjhgbihkaaCrushBase
namespace Go.Proofs.Ytcofmfjhgbihkaa.crush
open Go.RowKit
open Go.Proofs.Ytcofmfjhgbihkaa.kit Go.Proofs.Ytcofmfjhgbihkaa.own
set_option linter.unusedVariables false
set_option linter.unusedSimpArgs false

/-- A pool. -/
structure PoolV where
  size : Int
  min : Int
  pgs : Int
  dom : Int
deriving DecidableEq
/-- A change. -/
structure IncV where
  kind : Int
  osd : Int
  client : Int
  num : Int
  pool : PoolV
deriving DecidableEq
def PoolV.val (p : PoolV) : Value := .agg #[.int .i64 p.size, .int .i64 p.min, .int .i64 p.pgs, .int .i64 p.dom]
def IncV.val (c : IncV) : Value := .agg #[.int .i64 c.kind, .int .i64 c.osd, .int .i64 c.client, .int .i64 c.num, .int .i64 c.pool.size, .int .i64 c.pool.min, .int .i64 c.pool.pgs, .int .i64 c.pool.dom]
def inR (x a b : Int) : Bool := decide (a ≤ x) && decide (x ≤ b)

set_option maxHeartbeats 4000000 in
theorem within_any (x a b : Int) (w : World) : Calls Try.prog 155 #[.int .i64 x, .int .i64 a, .int .i64 b] w fun e w' => e = .returned (.bool (inR x a b)) ∧ w = w' := by
  unfold inR
  go_enter Try.func155, Try.ntmps155
  by_cases h1 : a ≤ x
  · by_cases h2 : x ≤ b
    · go_wp2
      go_ret
      simp
      omega
    · go_wp2
      go_ret
      simp
      omega
  · go_wp2
    go_ret
    simp
    omega
set_option maxHeartbeats 4000000 in
theorem within64_any (x a b : Int) (w : World) : Calls Try.prog 145 #[.int .i64 x, .int .i64 a, .int .i64 b] w fun e w' => e = .returned (.bool (inR x a b)) ∧ w = w' := by
  unfold inR
  go_enter Try.func145, Try.ntmps145
  by_cases h1 : a ≤ x
  · by_cases h2 : x ≤ b
    · go_wp2
      go_ret
      simp
      omega
    · go_wp2
      go_ret
      simp
      omega
  · go_wp2
    go_ret
    simp
    omega

def okBoot (n : Int) : Bool := inR n 1 1073741824
def okWeight (n : Int) : Bool := inR n 0 1048576
def okId (n : Int) : Bool := inR n 0 7
def okPool (p : PoolV) : Bool := inR p.size 1 3 && (inR p.min 1 p.size && (inR p.pgs 1 8 && inR p.dom 1 2))
def okBan (c n : Int) : Bool := inR c 0 3 && okBoot n

set_option maxHeartbeats 4000000 in
theorem fitBoot_any (x : Int) (w : World) : Calls Try.prog 143 #[.int .i64 x] w fun e w' => e = .returned (.bool (okBoot x)) ∧ w = w' := by
  go_enter Try.func143, Try.ntmps143
  go_wp2_with (go_at_call 145; refine (within64_any _ _ _ _).mono ?_; rintro e w5 ⟨rfl, rfl⟩)
  go_ret
  exact ⟨rfl, rfl⟩
set_option maxHeartbeats 4000000 in
theorem fitWeight_any (x : Int) (w : World) : Calls Try.prog 144 #[.int .i64 x] w fun e w' => e = .returned (.bool (okWeight x)) ∧ w = w' := by
  go_enter Try.func144, Try.ntmps144
  go_wp2_with (go_at_call 145; refine (within64_any _ _ _ _).mono ?_; rintro e w5 ⟨rfl, rfl⟩)
  go_ret
  exact ⟨rfl, rfl⟩
set_option maxHeartbeats 4000000 in
theorem fitId_any (x : Int) (w : World) : Calls Try.prog 154 #[.int .i64 x] w fun e w' => e = .returned (.bool (okId x)) ∧ w = w' := by
  go_enter Try.func154, Try.ntmps154
  go_wp2_with (go_at_call 155; refine (within_any _ _ _ _).mono ?_; rintro e w5 ⟨rfl, rfl⟩)
  go_ret
  exact ⟨rfl, rfl⟩
set_option maxHeartbeats 8000000 in
theorem Pool_any (p : PoolV) (w : World) : Calls Try.prog 146 #[p.val] w fun e w' => e = .returned (.bool (okPool p)) ∧ Below w.heap.size w w' := by
  obtain ⟨a, b, c, d⟩ := p
  unfold PoolV.val okPool
  simp only
  have HB := Lib.hid (below_new w (.cells #[.int .i64 a, .int .i64 b, .int .i64 c, .int .i64 d] 85))
  obtain ⟨b1, h1⟩ : ∃ q, inR a 1 3 = q := ⟨_, rfl⟩
  obtain ⟨b2, h2⟩ : ∃ q, inR b 1 a = q := ⟨_, rfl⟩
  obtain ⟨b3, h3⟩ : ∃ q, inR c 1 8 = q := ⟨_, rfl⟩
  obtain ⟨b4, h4⟩ : ∃ q, inR d 1 2 = q := ⟨_, rfl⟩
  have e1 : True → inR a 1 3 = b1 := fun _ => h1
  have e2 : True → inR b 1 a = b2 := fun _ => h2
  have e3 : True → inR c 1 8 = b3 := fun _ => h3
  have e4 : True → inR d 1 2 = b4 := fun _ => h4
  rw [h1, h2, h3, h4]
  clear h1 h2 h3 h4
  go_enter Try.func146, Try.ntmps146
  cases b1 with
  | false =>
    go_wp2_with (go_at_call 155; refine (within_any _ _ _ _).mono ?_; rintro e w5 ⟨rfl, rfl⟩)
    go_ret
    exact ⟨rfl, HB.out⟩
  | true =>
    cases b2 with
    | false =>
      go_wp2_with (go_at_call 155; refine (within_any _ _ _ _).mono ?_; rintro e w5 ⟨rfl, rfl⟩)
      go_ret
      exact ⟨rfl, HB.out⟩
    | true =>
      cases b3 with
      | false =>
        go_wp2_with (go_at_call 155; refine (within_any _ _ _ _).mono ?_; rintro e w5 ⟨rfl, rfl⟩)
        go_ret
        exact ⟨rfl, HB.out⟩
      | true =>
        go_wp2_with (go_at_call 155; refine (within_any _ _ _ _).mono ?_; rintro e w5 ⟨rfl, rfl⟩)
        go_ret
        exact ⟨rfl, HB.out⟩

set_option maxHeartbeats 8000000 in
theorem fitBan_any (c n : Int) (w : World) : Calls Try.prog 147 #[.agg #[.int .i64 c, .int .i64 n]] w fun e w' => e = .returned (.bool (okBan c n)) ∧ Below w.heap.size w w' := by
  unfold okBan
  have HB := Lib.hid (below_new w (.cells #[.int .i64 c, .int .i64 n] 136))
  obtain ⟨b1, h1⟩ : ∃ q, inR c 0 3 = q := ⟨_, rfl⟩
  have e1 : True → inR c 0 3 = b1 := fun _ => h1
  rw [h1]
  clear h1
  go_enter Try.func147, Try.ntmps147
  cases b1 with
  | false =>
    go_wp2_with (go_at_call 155; refine (within_any _ _ _ _).mono ?_; rintro e w5 ⟨rfl, rfl⟩)
    go_ret
    exact ⟨rfl, HB.out⟩
  | true =>
    go_wp2_with (first | (go_at_call 155; refine (within_any _ _ _ _).mono ?_; rintro e w5 ⟨rfl, rfl⟩) | (go_at_call 143; refine (fitBoot_any _ _).mono ?_; rintro e w5 ⟨rfl, rfl⟩))
    go_ret
    exact ⟨rfl, HB.out⟩

/-- A change's numbers, cell by cell. -/
def IncV.cells (c : IncV) : List Value := [.int .i64 c.kind, .int .i64 c.osd, .int .i64 c.client, .int .i64 c.num, .int .i64 c.pool.size, .int .i64 c.pool.min, .int .i64 c.pool.pgs, .int .i64 c.pool.dom]
theorem sizeBan : (Try.prog.info? 136).map (·.size) = some 2 := by kernel_rfl
theorem sizeInc : (Try.prog.info? 87).map (·.size) = some 8 := by kernel_rfl
def noPool : PoolV := ⟨0, 0, 0, 0⟩

theorem eql_inc (x y : IncV) (w : World) : (binOp .eql 87 x.val y.val).run Try.prog w = .ok (.bool (decide (x = y))) w := by
  obtain ⟨k, o, cl, n, a, b, p, d⟩ := x
  obtain ⟨k', o', cl', n', a', b', p', d'⟩ := y
  unfold IncV.val
  go_simp
  repeat' split
  all_goals simp [*]
/-- .. of its Kind, storage node and number alone. -/
def osdOf (c : IncV) : IncV := ⟨c.kind, c.osd, 0, c.num, noPool⟩
def poolOf (c : IncV) : IncV := ⟨c.kind, 0, 0, 0, c.pool⟩
def banOfI (c : IncV) : IncV := ⟨c.kind, 0, c.client, c.num, noPool⟩
def isOsd (c : IncV) : Bool := decide (c = osdOf c) && okId c.osd

set_option maxHeartbeats 8000000 in
theorem ofOsd_any (c : IncV) (w : World) : Calls Try.prog 142 #[c.val] w fun e w' => e = .returned (.bool (isOsd c)) ∧ Below w.heap.size w w' := by
  have HQ := fun w => eql_inc c (osdOf c) w
  unfold isOsd
  obtain ⟨b1, h1⟩ : ∃ q, decide (c = osdOf c) = q := ⟨_, rfl⟩
  rw [h1] at HQ ⊢
  clear h1
  obtain ⟨k, o, cl, n, a, b, p, d⟩ := c
  unfold IncV.val osdOf noPool at HQ
  unfold IncV.val
  simp only at HQ ⊢
  have HB := Lib.hid (below_new w (.cells #[.int .i64 k, .int .i64 o, .int .i64 cl, .int .i64 n, .int .i64 a, .int .i64 b, .int .i64 p, .int .i64 d] 87))
  go_enter Try.func142, Try.ntmps142
  cases b1 with
  | false =>
    go_wp2_with fail
    go_ret
    exact ⟨rfl, HB.out⟩
  | true =>
    go_wp2_with (go_at_call 154; refine (fitId_any _ _).mono ?_; rintro e w5 ⟨rfl, rfl⟩)
    go_ret
    exact ⟨rfl, HB.out⟩

def okInc (c : IncV) : Bool :=
  if c.kind = 1 ∨ c.kind = 2 then isOsd c && okBoot c.num
  else if c.kind = 3 then isOsd c && okWeight c.num
  else if c.kind = 4 then isOsd c && inR c.num 1 1073741824
  else if c.kind = 5 then decide (c = poolOf c) && okPool c.pool
  else if c.kind = 6 then decide (c = banOfI c) && okBan c.client c.num
  else false

theorem cells_range {w : World} {N : Nat} {l : List Value} {T : TypeId} {fz : Nat × Nat} (h : w.heap[N]? = some (.cells l.toArray T fz)) : w.rangeAt N 0 l := fun j v hv => by
  simp only [World.cell?, h, Nat.zero_add]
  simpa using hv
set_option maxHeartbeats 8000000 in
theorem banOf_any (c : IncV) (w : World) : Calls Try.prog 139 #[c.val] w fun e w' => e = .returned (.agg #[.int .i64 c.client, .int .i64 c.num]) ∧ Below w.heap.size w w' := by
  obtain ⟨k, o, cl, n, a, b, p, d⟩ := c
  unfold IncV.val
  simp only
  have hb1 := below_new w (.cells #[.int .i64 k, .int .i64 o, .int .i64 cl, .int .i64 n, .int .i64 a, .int .i64 b, .int .i64 p, .int .i64 d] 87)
  have HB := Lib.hid (hb1.trans ((below_new _ (.cells #[.int .i64 cl, .int .i64 n] 136)).mono (by simp)))
  have HN := Lib.hid (cells_range (l := [.int .i64 cl, .int .i64 n]) (alloc_at (w.alloc (.cells #[.int .i64 k, .int .i64 o, .int .i64 cl, .int .i64 n, .int .i64 a, .int .i64 b, .int .i64 p, .int .i64 d] 87)) (.cells #[.int .i64 cl, .int .i64 n] 136)))
  rw [World.size_alloc] at HN
  clear hb1
  go_enter Try.func139, Try.ntmps139
  go_wp2_with fail
  refine bodyPost_ret (ret_cell rfl rfl HN.out Try.underlying136 rfl sizeBan) rfl ?_
  exact ⟨rfl, HB.out⟩

/-- The box of a change. -/
def IBx (W : World) (N : Nat) (c : IncV) : Prop := W.heap[N]? = some (.cells #[.int .i64 c.kind, .int .i64 c.osd, .int .i64 c.client, .int .i64 c.num, .int .i64 c.pool.size, .int .i64 c.pool.min, .int .i64 c.pool.pgs, .int .i64 c.pool.dom] 87 (0, 0))
theorem IBx.keep {W W' : World} {N : Nat} {c : IncV} (h : IBx W N c) (hb : Below W.heap.size W W') : IBx W' N c := (hb.block N (Array.getElem?_eq_some_iff.1 h).1).trans h
theorem IBx.cells {W : World} {N : Nat} {c : IncV} (h : IBx W N c) : W.cell? ⟨N, 0, none⟩ = some (.int .i64 c.kind) ∧ W.cell? ⟨N, 1, none⟩ = some (.int .i64 c.osd) ∧ W.cell? ⟨N, 2, none⟩ = some (.int .i64 c.client) ∧ W.cell? ⟨N, 3, none⟩ = some (.int .i64 c.num) ∧
    W.cell? ⟨N, 4, none⟩ = some (.int .i64 c.pool.size) ∧ W.cell? ⟨N, 5, none⟩ = some (.int .i64 c.pool.min) ∧ W.cell? ⟨N, 6, none⟩ = some (.int .i64 c.pool.pgs) ∧ W.cell? ⟨N, 7, none⟩ = some (.int .i64 c.pool.dom) := by
  unfold IBx at h
  refine ⟨?_, ?_, ?_, ?_, ?_, ?_, ?_, ?_⟩ <;> simp [World.cell?, h]
theorem ibx_new (w : World) (c : IncV) : IBx (w.alloc (.cells #[.int .i64 c.kind, .int .i64 c.osd, .int .i64 c.client, .int .i64 c.num, .int .i64 c.pool.size, .int .i64 c.pool.min, .int .i64 c.pool.pgs, .int .i64 c.pool.dom] 87)) w.heap.size c := alloc_at w _

set_option maxHeartbeats 16000000 in
set_option maxRecDepth 100000 in
theorem Inc_any (c : IncV) (w : World) : Calls Try.prog 133 #[c.val] w fun e w' => e = .returned (.bool (okInc c)) ∧ Below w.heap.size w w' := by
  have HO := Lib.hid (fun w => ofOsd_any c w)
  have HP := Lib.hid (fun w => Pool_any c.pool w)
  have HBa := Lib.hid (fun w => banOf_any c w)
  have HQ5 := fun w => eql_inc c (poolOf c) w
  have HQ6 := fun w => eql_inc c (banOfI c) w
  obtain ⟨r, hr⟩ : ∃ q, okInc c = q := ⟨_, rfl⟩
  rw [hr]
  unfold okInc at hr
  obtain ⟨b0, h0⟩ : ∃ q, isOsd c = q := ⟨_, rfl⟩
  obtain ⟨b1, h1⟩ : ∃ q, decide (c = poolOf c) = q := ⟨_, rfl⟩
  obtain ⟨b2, h2⟩ : ∃ q, decide (c = banOfI c) = q := ⟨_, rfl⟩
  rw [h0, h1, h2] at hr
  rw [h0] at HO
  rw [h1] at HQ5
  rw [h2] at HQ6
  clear h0 h1 h2
  obtain ⟨k, o, cl, n, a, b, p, d⟩ := c
  unfold IncV.val poolOf at HQ5
  unfold IncV.val banOfI noPool at HQ6
  unfold IncV.val at HO HBa
  unfold PoolV.val at HP
  unfold IncV.val
  simp only at HQ5 HQ6 HO HBa HP hr ⊢
  have HB := Lib.hid (below_new w (.cells #[.int .i64 k, .int .i64 o, .int .i64 cl, .int .i64 n, .int .i64 a, .int .i64 b, .int .i64 p, .int .i64 d] 87))
  have HX := Lib.hid (ibx_new w ⟨k, o, cl, n, ⟨a, b, p, d⟩⟩)
  obtain ⟨b3, h3⟩ : ∃ q, okPool ⟨a, b, p, d⟩ = q := ⟨_, rfl⟩
  rw [h3] at HP hr
  clear h3
  go_enter Try.func133, Try.ntmps133
  by_cases k1 : k = 1
  · subst k1
    rw [if_pos (Or.inl rfl)] at hr
    cases b0 with
    | false =>
      go_wp2_with (first | (go_at_call 142; refine (HO.out _).mono ?_; rintro e w5 ⟨rfl, hb⟩; have HB5 := Lib.hid (HB.out.trans (hb.mono HB.out.size)); obtain ⟨c0, c1, c2, c3, c4, c5, c6, c7⟩ := (HX.out.keep hb).cells; clear hb) | (go_at_call 143; refine (fitBoot_any _ _).mono ?_; rintro e w6 ⟨rfl, rfl⟩))
      go_ret
      exact ⟨by rw [← hr]; rfl, HB5.out⟩
    | true =>
      go_wp2_with (first | (go_at_call 142; refine (HO.out _).mono ?_; rintro e w5 ⟨rfl, hb⟩; have HB5 := Lib.hid (HB.out.trans (hb.mono HB.out.size)); obtain ⟨c0, c1, c2, c3, c4, c5, c6, c7⟩ := (HX.out.keep hb).cells; clear hb) | (go_at_call 143; refine (fitBoot_any _ _).mono ?_; rintro e w6 ⟨rfl, rfl⟩))
      go_ret
      exact ⟨by rw [← hr]; rfl, HB5.out⟩
  · by_cases k2 : k = 2
    · subst k2
      rw [if_pos (Or.inr rfl)] at hr
      cases b0 with
      | false =>
        go_wp2_with (first | (go_at_call 142; refine (HO.out _).mono ?_; rintro e w5 ⟨rfl, hb⟩; have HB5 := Lib.hid (HB.out.trans (hb.mono HB.out.size)); obtain ⟨c0, c1, c2, c3, c4, c5, c6, c7⟩ := (HX.out.keep hb).cells; clear hb) | (go_at_call 143; refine (fitBoot_any _ _).mono ?_; rintro e w6 ⟨rfl, rfl⟩))
        go_ret
        exact ⟨by rw [← hr]; rfl, HB5.out⟩
      | true =>
        go_wp2_with (first | (go_at_call 142; refine (HO.out _).mono ?_; rintro e w5 ⟨rfl, hb⟩; have HB5 := Lib.hid (HB.out.trans (hb.mono HB.out.size)); obtain ⟨c0, c1, c2, c3, c4, c5, c6, c7⟩ := (HX.out.keep hb).cells; clear hb) | (go_at_call 143; refine (fitBoot_any _ _).mono ?_; rintro e w6 ⟨rfl, rfl⟩))
        go_ret
        exact ⟨by rw [← hr]; rfl, HB5.out⟩
    · by_cases k3 : k = 3
      · subst k3
        rw [if_neg (by omega), if_pos rfl] at hr
        cases b0 with
        | false =>
          go_wp2_with (first | (go_at_call 142; refine (HO.out _).mono ?_; rintro e w5 ⟨rfl, hb⟩; have HB5 := Lib.hid (HB.out.trans (hb.mono HB.out.size)); obtain ⟨c0, c1, c2, c3, c4, c5, c6, c7⟩ := (HX.out.keep hb).cells; clear hb) | (go_at_call 144; refine (fitWeight_any _ _).mono ?_; rintro e w6 ⟨rfl, rfl⟩))
          go_ret
          exact ⟨by rw [← hr]; rfl, HB5.out⟩
        | true =>
          go_wp2_with (first | (go_at_call 142; refine (HO.out _).mono ?_; rintro e w5 ⟨rfl, hb⟩; have HB5 := Lib.hid (HB.out.trans (hb.mono HB.out.size)); obtain ⟨c0, c1, c2, c3, c4, c5, c6, c7⟩ := (HX.out.keep hb).cells; clear hb) | (go_at_call 144; refine (fitWeight_any _ _).mono ?_; rintro e w6 ⟨rfl, rfl⟩))
          go_ret
          exact ⟨by rw [← hr]; rfl, HB5.out⟩
      · by_cases k4 : k = 4
        · subst k4
          rw [if_neg (by omega), if_neg (by omega), if_pos rfl] at hr
          cases b0 with
          | false =>
            go_wp2_with (first | (go_at_call 142; refine (HO.out _).mono ?_; rintro e w5 ⟨rfl, hb⟩; have HB5 := Lib.hid (HB.out.trans (hb.mono HB.out.size)); obtain ⟨c0, c1, c2, c3, c4, c5, c6, c7⟩ := (HX.out.keep hb).cells; clear hb) | (go_at_call 145; refine (within64_any _ _ _ _).mono ?_; rintro e w6 ⟨rfl, rfl⟩))
            go_ret
            exact ⟨by rw [← hr]; rfl, HB5.out⟩
          | true =>
            go_wp2_with (first | (go_at_call 142; refine (HO.out _).mono ?_; rintro e w5 ⟨rfl, hb⟩; have HB5 := Lib.hid (HB.out.trans (hb.mono HB.out.size)); obtain ⟨c0, c1, c2, c3, c4, c5, c6, c7⟩ := (HX.out.keep hb).cells; clear hb) | (go_at_call 145; refine (within64_any _ _ _ _).mono ?_; rintro e w6 ⟨rfl, rfl⟩))
            go_ret
            exact ⟨by rw [← hr]; rfl, HB5.out⟩
        · by_cases k5 : k = 5
          · subst k5
            rw [if_neg (by omega), if_neg (by omega), if_neg (by omega), if_pos rfl] at hr
            cases b1 with
            | false =>
              go_wp2_with (first | (go_at_call 146; refine (HP.out _).mono ?_; rintro e w5 ⟨rfl, hb⟩; have HB5 := Lib.hid (HB.out.trans (hb.mono HB.out.size)); clear hb))
              go_ret
              exact ⟨by rw [← hr]; rfl, HB.out⟩
            | true =>
              go_wp2_with (first | (go_at_call 146; refine (HP.out _).mono ?_; rintro e w5 ⟨rfl, hb⟩; have HB5 := Lib.hid (HB.out.trans (hb.mono HB.out.size)); clear hb))
              go_ret
              exact ⟨by rw [← hr]; rfl, HB5.out⟩
          · by_cases k6 : k = 6
            · subst k6
              rw [if_neg (by omega), if_neg (by omega), if_neg (by omega), if_neg (by omega), if_pos rfl] at hr
              cases b2 with
              | false =>
                go_wp2_with (first | (go_at_call 139; refine (HBa.out _).mono ?_; rintro e w5 ⟨rfl, hb⟩; have HB4 := Lib.hid (HB.out.trans (hb.mono HB.out.size)); clear hb) | (go_at_call 147; refine (fitBan_any _ _ _).mono ?_; rintro e w6 ⟨rfl, hb⟩; have HB5 := Lib.hid (HB4.out.trans (hb.mono HB4.out.size)); clear hb))
                go_ret
                exact ⟨by rw [← hr]; rfl, HB.out⟩
              | true =>
                go_wp2_with (first | (go_at_call 139; refine (HBa.out _).mono ?_; rintro e w5 ⟨rfl, hb⟩; have HB4 := Lib.hid (HB.out.trans (hb.mono HB.out.size)); clear hb) | (go_at_call 147; refine (fitBan_any _ _ _).mono ?_; rintro e w6 ⟨rfl, hb⟩; have HB5 := Lib.hid (HB4.out.trans (hb.mono HB4.out.size)); clear hb))
                go_ret
                exact ⟨by rw [← hr]; rfl, HB5.out⟩
            · rw [if_neg (by omega), if_neg (by omega), if_neg (by omega), if_neg (by omega), if_neg (by omega)] at hr
              have HR := Lib.hid hr
              clear hr
              go_wp2_with fail
              go_ret
              exact ⟨by rw [← HR.out]; rfl, HB.out⟩
end Go.Proofs.Ytcofmfjhgbihkaa.crush
