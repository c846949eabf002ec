/- Which maps are ones, by the program. -/
import Derived.Test.YtoeklnmmnmmjeaaGreatRows
import Derived.Test.YtoeklnmmnmmjeaaGreatMapsIdx
namespace Go.Proofs.YtoeklnmmnmmjeaaGreat.crush
open Go.RowKit
open Go.Proofs.YtoeklnmmnmmjeaaGreat.kit Go.Proofs.YtoeklnmmnmmjeaaGreat.own
set_option linter.unusedVariables false

def okHosts (hs : List Int) : Bool := inR hs.length 1 8 && !(hs.any fun h => !okId h)
def unOsd (e : Int) (o : OsdV) : Bool := (!okBoot o.boot && (!decide (o.boot = 0) || o.up)) || (!okWeight o.wt || !inR o.thru 0 e)
def okOsds (e : Int) (hs : List Int) (l : List OsdV) : Bool := decide (l.length = hs.length) && !(l.any (unOsd e))
def okPools (l : List PoolV) : Bool := decide (l.length ≤ 2) && !(l.any fun p => !okPool p)

set_option maxHeartbeats 4000000 in
theorem unHost_any (x : Int) (w : World) : Calls Tryz.prog 109 #[.int .i64 x] w fun e w' => e = .returned (.bool (!okId x)) ∧ Below w.heap.size w w' := by
  go_enter Tryz.func109, Tryz.ntmps109
  go_wp2_with (go_at_call 110; refine (fitId_any _ _).mono ?_; rintro e w5 ⟨rfl, rfl⟩)
  go_ret
  exact ⟨rfl, Below.refl _ _⟩
set_option maxHeartbeats 4000000 in
theorem unPool_any (x : PoolV) (w : World) : Calls Tryz.prog 114 #[.agg #[.int .i64 x.size, .int .i64 x.min, .int .i64 x.pgs, .int .i64 x.dom]] w fun e w' => e = .returned (.bool (!okPool x)) ∧ Below w.heap.size w w' := by
  have HP := Lib.hid (fun w => Pool_any x w)
  have HB := Lib.hid (below_new w (.cells #[.int .i64 x.size, .int .i64 x.min, .int .i64 x.pgs, .int .i64 x.dom] 29))
  unfold PoolV.val at HP
  go_enter Tryz.func114, Tryz.ntmps114
  go_wp2_with (go_at_call 18; refine (HP.out _).mono ?_; rintro e w5 ⟨rfl, hb⟩; have HB5 := Lib.hid (HB.out.trans (hb.mono HB.out.size)); clear hb)
  go_ret
  exact ⟨rfl, HB5.out⟩
set_option maxHeartbeats 16000000 in
theorem unOsd_any (x : OsdV) (N : Nat) (ep : Int) (w : World) (hN : w.cell? ⟨N, 0, none⟩ = some (.int .i64 ep)) (hNl : N < w.heap.size) :
    Calls Tryz.prog 112 #[.agg #[.int .i64 x.boot, .bool x.up, .int .i64 x.wt, .int .i64 x.thru], .pointer (some ⟨N, 0, none⟩)] w fun e w' => e = .returned (.bool (unOsd ep x)) ∧ Below w.heap.size w w' := by
  obtain ⟨bt, up, wt, th⟩ := x
  simp only
  have hb := below_new w (.cells #[.int .i64 bt, .bool up, .int .i64 wt, .int .i64 th] 74)
  have HB := Lib.hid hb
  have hN2 : (w.alloc (.cells #[.int .i64 bt, .bool up, .int .i64 wt, .int .i64 th] 74)).cell? ⟨N, 0, none⟩ = some (.int .i64 ep) := (hb.cell (p := ⟨N, 0, none⟩) hNl).trans hN
  clear hb hN hNl
  obtain ⟨b1, h1⟩ : ∃ q, okBoot bt = q := ⟨_, rfl⟩
  obtain ⟨b2, h2⟩ : ∃ q, okWeight wt = q := ⟨_, rfl⟩
  obtain ⟨r, hr⟩ : ∃ q, unOsd ep ⟨bt, up, wt, th⟩ = q := ⟨_, rfl⟩
  rw [hr]
  unfold unOsd at hr
  simp only at hr
  rw [h1, h2] at hr
  have HC1 := Lib.hid (fun w => fitBoot_any bt w); have HC2 := Lib.hid (fun w => fitWeight_any wt w)
  rw [h1] at HC1; rw [h2] at HC2
  have HR := Lib.hid hr
  clear h1 h2 hr
  go_enter Tryz.func112, Tryz.ntmps112
  cases b1 <;> cases b2 <;> cases up <;> by_cases hb0 : bt = 0
  all_goals
    (try subst hb0)
    go_wp2_with (first
      | (go_at_call 73; refine (HC1.out _).mono ?_; rintro e w5 ⟨rfl, rfl⟩)
      | (go_at_call 74; refine (HC2.out _).mono ?_; rintro e w5 ⟨rfl, rfl⟩)
      | (go_at_call 58; refine (within64_any _ _ _ _).mono ?_; rintro e w5 ⟨rfl, rfl⟩))
    go_ret
    refine ⟨?_, HB.out⟩
    rw [← HR.out]
    first | rfl | simp [*]

set_option maxHeartbeats 8000000 in
theorem fitHosts_any (v : Value) (hs : List Int) (w : World) (h : Sl ic 1 w v hs) : Calls Tryz.prog 59 #[v] w fun e w' => e = .returned (.bool (okHosts hs)) ∧ Below w.heap.size w w' := by
  have HC := Lib.hid (containsFI v hs (fun h => !okId h) w h (fun x u _ => unHost_any x u))
  obtain ⟨a, c, rfl⟩ := h.slice
  unfold okHosts
  obtain ⟨b1, h1⟩ : ∃ q, inR (hs.length : Int) 1 8 = q := ⟨_, rfl⟩
  obtain ⟨b2, h2⟩ : ∃ q, (hs.any fun h => !okId h) = q := ⟨_, rfl⟩
  rw [h2] at HC
  have HW := Lib.hid (fun w => within_any (hs.length : Int) 1 8 w)
  rw [h1] at HW
  rw [h1, h2]
  generalize hs.length = L at HC HW ⊢
  clear h h1 h2
  go_enter Tryz.func59, Tryz.ntmps59
  cases b1 with
  | false =>
    go_wp2_with (first
      | (go_at_call 71; refine (HW.out _).mono ?_; rintro e w5 ⟨rfl, rfl⟩)
      | (go_at_call 111; refine HC.out.mono ?_; rintro e w5 ⟨rfl, hb⟩; have HB5 := Lib.hid hb; clear hb))
    go_ret
    exact ⟨rfl, Below.refl _ _⟩
  | true =>
    go_wp2_with (first
      | (go_at_call 71; refine (HW.out _).mono ?_; rintro e w5 ⟨rfl, rfl⟩)
      | (go_at_call 111; refine HC.out.mono ?_; rintro e w5 ⟨rfl, hb⟩; have HB5 := Lib.hid hb; clear hb))
    go_ret
    exact ⟨rfl, HB5.out⟩
set_option maxHeartbeats 8000000 in
theorem fitPools_any (v : Value) (l : List PoolV) (w : World) (h : Sl pc 4 w v l) : Calls Tryz.prog 61 #[v] w fun e w' => e = .returned (.bool (okPools l)) ∧ Below w.heap.size w w' := by
  have HC := Lib.hid (containsFP v l (fun p => !okPool p) w h (fun x u _ => unPool_any x u))
  obtain ⟨a, c, rfl⟩ := h.slice
  unfold okPools
  obtain ⟨b2, h2⟩ : ∃ q, (l.any fun p => !okPool p) = q := ⟨_, rfl⟩
  rw [h2] at HC ⊢
  generalize l.length = L at HC ⊢
  clear h h2
  go_enter Tryz.func61, Tryz.ntmps61
  by_cases hL : L ≤ 2
  · go_wp2_with (go_at_call 115; refine HC.out.mono ?_; rintro e w5 ⟨rfl, hb⟩; have HB5 := Lib.hid hb; clear hb)
    go_ret
    exact ⟨by simp [hL], HB5.out⟩
  · go_wp2_with (go_at_call 115; refine HC.out.mono ?_; rintro e w5 ⟨rfl, hb⟩; have HB5 := Lib.hid hb; clear hb)
    go_ret
    exact ⟨by simp, Below.refl _ _⟩

/-- A map. -/
structure MapV where
  epoch : Int
  hosts : List Int
  osds : List OsdV
  pools : List PoolV
  bans : List BanV
/-- A map that is read. -/
def MapR (w : World) (v : Value) (m : MapV) : Prop := ∃ vh vo vp vb, v = .agg #[.int .i64 m.epoch, vh, vo, vp, vb] ∧ Sl ic 1 w vh m.hosts ∧ Sl oc 4 w vo m.osds ∧ Sl pc 4 w vp m.pools ∧ Sl bc 2 w vb m.bans
theorem MapR.keep {w w' : World} {v : Value} {m : MapV} (h : MapR w v m) (hb : Below w.heap.size w w') : MapR w' v m := by
  obtain ⟨vh, vo, vp, vb, rfl, h1, h2, h3, h4⟩ := h
  exact ⟨vh, vo, vp, vb, rfl, h1.keep hb, h2.keep hb, h3.keep hb, h4.keep hb⟩

set_option maxHeartbeats 8000000 in
set_option maxRecDepth 100000 in
theorem fitOsds_any (v : Value) (m : MapV) (w : World) (h : MapR w v m) : Calls Tryz.prog 60 #[v] w fun e w' => e = .returned (.bool (okOsds m.epoch m.hosts m.osds)) ∧ Below w.heap.size w w' := by
  obtain ⟨vh, vo, vp, vb, rfl, h1, h2, h3, h4⟩ := h
  obtain ⟨ah, ch, rfl⟩ := h1.slice
  obtain ⟨ao, co, rfl⟩ := h2.slice
  obtain ⟨ap, cp, rfl⟩ := h3.slice
  obtain ⟨ab, cb, rfl⟩ := h4.slice
  have hb := below_new w (.cells #[.int .i64 m.epoch, .slice ah m.hosts.length ch, .slice ao m.osds.length co, .slice ap m.pools.length cp, .slice ab m.bans.length cb] 27)
  have hx := alloc_at w (.cells #[.int .i64 m.epoch, .slice ah m.hosts.length ch, .slice ao m.osds.length co, .slice ap m.pools.length cp, .slice ab m.bans.length cb] 27)
  have HB := Lib.hid hb
  have HC := Lib.hid (containsFO _ m.osds w.heap.size (unOsd m.epoch) _ (h2.keep hb) (fun x u hu => unOsd_any x w.heap.size m.epoch u (by
    have h5 := (hu.block w.heap.size (by simp)).trans hx
    simp [World.cell?, h5]) (Nat.lt_of_lt_of_le (by simp) hu.size)))
  have hmf : ∀ (fn : Fn) (first cap : Array Value) (w : World), (Instr.makeFunc fn first cap).run Tryz.prog w = .ok (.func fn first cap) w := fun _ _ _ _ => rfl
  unfold okOsds
  obtain ⟨b2, hq2⟩ : ∃ q, (m.osds.any (unOsd m.epoch)) = q := ⟨_, rfl⟩
  rw [hq2] at HC ⊢
  generalize m.hosts.length = Lh at HC HB ⊢
  generalize m.osds.length = Lo at HC HB ⊢
  generalize m.pools.length = Lp at HC HB ⊢
  generalize m.bans.length = Lb at HC HB ⊢
  generalize m.epoch = ep at HC HB ⊢
  clear hb hx h1 h2 h3 h4 hq2
  go_enter Tryz.func60, Tryz.ntmps60
  by_cases hL : Lo = Lh
  · subst hL
    go_wp2_with (go_at_call 113; refine HC.out.mono ?_; rintro e w5 ⟨rfl, hb⟩; have HB5 := Lib.hid (HB.out.trans (hb.mono HB.out.size)); clear hb)
    go_ret
    exact ⟨by simp, HB5.out⟩
  · have hL2 : ¬ (Lo : Int) = Lh := by omega
    go_wp2_with (go_at_call 113; refine HC.out.mono ?_; rintro e w5 ⟨rfl, hb⟩; have HB5 := Lib.hid (HB.out.trans (hb.mono HB.out.size)); clear hb)
    go_ret
    exact ⟨by simp [hL], HB.out⟩
end Go.Proofs.YtoeklnmmnmmjeaaGreat.crush
