/- Frames that are meant: the closures, and the iterator over them. -/
import Derived.Test.YtalnmbfmfeaohaaGreatRows
import Derived.Test.YtalnmbfmfeaohaaGreatFlightMap
import Derived.Test.YtalnmbfmfeaohaaGreatFlightSame
import Derived.Test.YtalnmbfmfeaohaaGreatIter
namespace Go.Proofs.YtalnmbfmfeaohaaGreat.flight
open Go.RowKit
open Go.Proofs.YtalnmbfmfeaohaaGreat.kit Go.Proofs.YtalnmbfmfeaohaaGreat.own Go.Proofs.YtalnmbfmfeaohaaGreat.iter
set_option linter.unusedVariables false
attribute [local go_sem] Oper.semAt_some

def fval (x : Frm) : Value := .agg #[.int .i64 x.num, .int .i64 x.src, .int .i64 x.dst, .string x.body]
def I64 (n : Int) : Prop := -9223372036854775808 ≤ n ∧ n ≤ 9223372036854775807
def Frm.Ok (x : Frm) : Prop := I64 x.num ∧ I64 x.src ∧ I64 x.dst
def onWay (y : Wy) (x : Frm) : Bool := decide ((x.src, x.dst) = y)
def inWays (ys : List Wy) (x : Frm) : Bool := decide ((x.src, x.dst) ∈ ys)
/-- In the world w the function value v tells of each frame whether p. -/
def Meant (w : World) (v : Value) (p : Frm → Bool) : Prop := ∃ g lb, v = .func (.func g) #[] lb ∧ (∀ args w, (callFunc g args).run Tryz.prog w = .ok (.enter g args) w) ∧
  ∀ W, Below w.heap.size w W → ∀ x : Frm, x.Ok → Calls Tryz.prog g (#[fval x] ++ lb) W fun e W' => e = .returned (.bool (p x)) ∧ Below W.heap.size W W'
theorem Meant.keep {w w' : World} {v : Value} {p : Frm → Bool} (h : Meant w v p) (hb : Below w.heap.size w w') : Meant w' v p := by
  obtain ⟨g, lb, rfl, he, hc⟩ := h
  exact ⟨g, lb, rfl, he, fun W hW x hx => hc W (hb.trans (hW.mono hb.size)) x hx⟩

set_option maxHeartbeats 4000000 in
set_option maxRecDepth 100000 in
theorem wayOf_any (x : Frm) (w : World) : Calls Tryz.prog 56 #[.agg #[.int .i64 x.num, .int .i64 x.src, .int .i64 x.dst, .string x.body]] w fun e w' => e = .returned (.agg #[.int .i64 x.src, .int .i64 x.dst]) ∧ ∃ q os', w' = Sort.grow (w.drewN q) os' := by
  obtain ⟨n, s, d, b⟩ := x
  simp only
  go_enter Tryz.func56, Tryz.ntmps56
  go_wp2
  have hr : ((w.alloc (.cells #[.int .i64 n, .int .i64 s, .int .i64 d, .string b] 38)).alloc (.cells #[.int .i64 s, .int .i64 d] 40)).rangeAt (w.heap.size + 1) 0 [.int .i64 s, .int .i64 d] := by
    have h := alloc_at (w.alloc (.cells #[.int .i64 n, .int .i64 s, .int .i64 d, .string b] 38)) (.cells #[.int .i64 s, .int .i64 d] 40)
    rw [World.size_alloc] at h
    intro j v hv
    simp only [World.cell?, h]
    simpa using hv
  refine bodyPost_ret (ret_cell rfl rfl hr Tryz.underlying40 rfl sizeWay) rfl ?_
  exact ⟨rfl, 0, _, by rw [Sort.alloc_eq_grow, Sort.alloc_eq_grow, Sort.grow_grow]; rfl⟩

set_option maxHeartbeats 4000000 in
set_option maxRecDepth 100000 in
theorem bound1_any (b : Nat) (to : Int) (x : Frm) (w : World) (hb : w.cell? ⟨b, 0, none⟩ = some (.int .i64 to)) : Calls Tryz.prog 57 #[fval x, .pointer (some ⟨b, 0, none⟩)] w fun e w' => e = .returned (.bool (x.dst == to)) ∧ Below w.heap.size w w' := by
  obtain ⟨n, s, d, bo⟩ := x
  have HB := Lib.hid (below_new w (.cells #[.int .i64 n, .int .i64 s, .int .i64 d, .string bo] 38))
  have hb1 := (HB.out.cell (p := ⟨b, 0, none⟩) (cell_lt hb)).trans hb
  unfold fval
  simp only
  clear hb
  go_enter Tryz.func57, Tryz.ntmps57
  go_wp2
  go_ret
  exact ⟨rfl, HB.out⟩
set_option maxHeartbeats 4000000 in
set_option maxRecDepth 100000 in
theorem numbered1_any (b : Nat) (k : Int) (x : Frm) (w : World) (hb : w.cell? ⟨b, 0, none⟩ = some (.int .i64 k)) : Calls Tryz.prog 53 #[fval x, .pointer (some ⟨b, 0, none⟩)] w fun e w' => e = .returned (.bool (x.num == k)) ∧ Below w.heap.size w w' := by
  obtain ⟨n, s, d, bo⟩ := x
  have HB := Lib.hid (below_new w (.cells #[.int .i64 n, .int .i64 s, .int .i64 d, .string bo] 38))
  have hb1 := (HB.out.cell (p := ⟨b, 0, none⟩) (cell_lt hb)).trans hb
  unfold fval
  simp only
  clear hb
  go_enter Tryz.func53, Tryz.ntmps53
  go_wp2
  go_ret
  exact ⟨rfl, HB.out⟩

/-- What the three makers of closures hand back. -/
def MeantS (w : World) (p : Frm → Bool) (e : Ending) (w' : World) : Prop := ∃ lb g, e = .returned (.func (.func g) #[] lb) ∧ Meant w' (.func (.func g) #[] lb) p ∧ Below w.heap.size w w'
set_option maxHeartbeats 4000000 in
set_option maxRecDepth 100000 in
theorem bound_any (to : Int) (w : World) : Calls Tryz.prog 38 #[.int .i64 to] w (MeantS w fun x => x.dst == to) := by
  have hmf : ∀ (fn : Fn) (first cap : Array Value) (w : World), (Instr.makeFunc fn first cap).run Tryz.prog w = .ok (.func fn first cap) w := fun _ _ _ _ => rfl
  have HB := Lib.hid (below_new w (.cells #[.int .i64 to] 3))
  have HC : Hid ((w.alloc (.cells #[.int .i64 to] 3)).cell? ⟨w.heap.size, 0, none⟩ = some (.int .i64 to)) := by show _ = _; rw [World.cell?_alloc_at _ _ _ _ rfl]; rfl
  go_enter Tryz.func38, Tryz.ntmps38
  go_wp2
  go_ret
  refine ⟨_, _, rfl, ⟨_, _, rfl, enters_of Tryz.func57 (by kernel_rfl) rfl, fun W hW x _ => ?_⟩, HB.out⟩
  exact bound1_any _ to x W ((hW.cell (p := ⟨w.heap.size, 0, none⟩) (by simp)).trans HC.out)
set_option maxHeartbeats 4000000 in
set_option maxRecDepth 100000 in
theorem numbered_any (k : Int) (w : World) : Calls Tryz.prog 35 #[.int .i64 k] w (MeantS w fun x => x.num == k) := by
  have hmf : ∀ (fn : Fn) (first cap : Array Value) (w : World), (Instr.makeFunc fn first cap).run Tryz.prog w = .ok (.func fn first cap) w := fun _ _ _ _ => rfl
  have HB := Lib.hid (below_new w (.cells #[.int .i64 k] 2))
  have HC : Hid ((w.alloc (.cells #[.int .i64 k] 2)).cell? ⟨w.heap.size, 0, none⟩ = some (.int .i64 k)) := by show _ = _; rw [World.cell?_alloc_at _ _ _ _ rfl]; rfl
  go_enter Tryz.func35, Tryz.ntmps35
  go_wp2
  go_ret
  refine ⟨_, _, rfl, ⟨_, _, rfl, enters_of Tryz.func53 (by kernel_rfl) rfl, fun W hW x _ => ?_⟩, HB.out⟩
  exact numbered1_any _ k x W ((hW.cell (p := ⟨w.heap.size, 0, none⟩) (by simp)).trans HC.out)

theorem range_of_cells {w : World} {b : Nat} {cs : Array Value} {t : TypeId} {fr : Nat × Nat} {l : List Value} (h : w.heap[b]? = some (.cells cs t fr)) (hl : cs.toList = l := by rfl) : w.rangeAt b 0 l := fun j v hv => by
  subst hl
  simp only [World.cell?, h]
  simpa using hv
theorem eql_way (f g : Wy) (h : f ≠ g) (w : World) : (binOp .eql 40 (.agg #[.int .i64 f.1, .int .i64 f.2]) (.agg #[.int .i64 g.1, .int .i64 g.2])).run Tryz.prog w = .ok (.bool false) w := by
  obtain ⟨a, b⟩ := f
  obtain ⟨a', b'⟩ := g
  simp only
  go_simp
  intro h1 h2
  exact h (by rw [h1, h2])
set_option maxHeartbeats 4000000 in
set_option maxRecDepth 100000 in
theorem along1_any (b : Nat) (y : Wy) (x : Frm) (w : World) (hb : w.cell? ⟨b, 0, none⟩ = some (.int .i64 y.1) ∧ w.cell? ⟨b, 1, none⟩ = some (.int .i64 y.2)) : Calls Tryz.prog 55 #[fval x, .pointer (some ⟨b, 0, none⟩)] w fun e w' => e = .returned (.bool (decide ((x.src, x.dst) = y))) ∧ Below w.heap.size w w' := by
  obtain ⟨n, s, d, bo⟩ := x
  obtain ⟨p, q⟩ := y
  have mixed : Tryz.prog.follows .mixedOrders = true := by kernel_rfl
  have hb1 := below_new w (.cells #[.int .i64 n, .int .i64 s, .int .i64 d, .string bo] 38)
  have HB := Lib.hid hb1
  have h1 := (hb1.cell (p := ⟨b, 0, none⟩) (cell_lt hb.1)).trans hb.1
  have h2 := (hb1.cell (p := ⟨b, 1, none⟩) (cell_lt hb.2)).trans hb.2
  have hR := fcells_at (x := ⟨n, s, d, bo⟩) (range_of_cells (alloc_at w (.cells #[.int .i64 n, .int .i64 s, .int .i64 d, .string bo] 38)))
  unfold fval
  simp only at hR h1 h2 ⊢
  clear hb hb1
  go_enter Tryz.func55, Tryz.ntmps55
  go_upto_region 1 with fail
  generalize (w.alloc (.cells #[.int .i64 n, .int .i64 s, .int .i64 d, .string bo] 38)) = W at HB h1 h2 hR ⊢
  generalize w.heap.size = N at hR ⊢
  obtain ⟨r1, r2, r3, r4⟩ := hR
  have g1 := cell_grown (a := ⟨b, 0, none⟩) (cell_lt h1) h1
  have g2 := cell_grown (a := ⟨b, 1, none⟩) (cell_lt h2) h2
  have g3 := cell_grown (a := ⟨N, 0, none⟩) (cell_lt r1) r1
  have g4 := cell_grown (a := ⟨N, 1, none⟩) (cell_lt r2) r2
  have g5 := cell_grown (a := ⟨N, 2, none⟩) (cell_lt r3) r3
  have g6 := cell_grown (a := ⟨N, 3, none⟩) (cell_lt r4) r4
  have hw := fun n' os => wayOf_any ⟨n, s, d, bo⟩ (Sort.grow (W.drewN n') os)
  simp only at hw
  clear h1 h2 r1 r2 r3 r4
  by_cases hq : (s, d) = (p, q)
  · obtain ⟨rfl, rfl⟩ := Prod.mk.inj hq
    go_quiet_grown (first | (go_at_call 56; exact Calls.grown_of (hw _ _)))
    have HBd := Lib.hid (HB.out.trans ((grow_below (w := W) ⟨nq, osq, rfl⟩).mono HB.out.size))
    simp only
    generalize (Sort.grow (W.drewN nq) osq) = W2 at HBd ⊢
    clear g1 g2 g3 g4 g5 g6 hw
    go_wp2
    go_ret
    exact ⟨by simp, HBd.out⟩
  · have hne := eql_way (s, d) (p, q) hq
    simp only at hne
    go_quiet_grown (first | (go_at_call 56; exact Calls.grown_of (hw _ _)))
    have HBd := Lib.hid (HB.out.trans ((grow_below (w := W) ⟨nq, osq, rfl⟩).mono HB.out.size))
    simp only
    generalize (Sort.grow (W.drewN nq) osq) = W2 at HBd ⊢
    clear g1 g2 g3 g4 g5 g6 hw hne
    go_wp2
    go_ret
    exact ⟨by simp [hq], HBd.out⟩

set_option maxHeartbeats 4000000 in
set_option maxRecDepth 100000 in
theorem along_any (y : Wy) (w : World) : Calls Tryz.prog 37 #[.agg #[.int .i64 y.1, .int .i64 y.2]] w (MeantS w (onWay y)) := by
  obtain ⟨p, q⟩ := y
  have hmf : ∀ (fn : Fn) (first cap : Array Value) (w : World), (Instr.makeFunc fn first cap).run Tryz.prog w = .ok (.func fn first cap) w := fun _ _ _ _ => rfl
  have HB := Lib.hid (below_new w (.cells #[.int .i64 p, .int .i64 q] 40))
  have HC := Lib.hid (wcells_at (x := (p, q)) (range_of_cells (alloc_at w (.cells #[.int .i64 p, .int .i64 q] 40))))
  simp only
  go_enter Tryz.func37, Tryz.ntmps37
  go_wp2
  go_ret
  refine ⟨_, _, rfl, ⟨_, _, rfl, enters_of Tryz.func55 (by kernel_rfl) rfl, fun W hW x _ => ?_⟩, HB.out⟩
  exact along1_any _ (p, q) x W ⟨(hW.cell (p := ⟨w.heap.size, 0, none⟩) (by simp)).trans HC.out.1, (hW.cell (p := ⟨w.heap.size, 1, none⟩) (by simp)).trans HC.out.2⟩

/-- A way is looked up among the places. -/
theorem look_places {w : World} {b : Nat} {xs : List Wy} (h : PMap w b xs) (hok : ∀ y ∈ xs, Wy.Ok y) (x : Wy) (hx : x.Ok) :
    ∃ c : Int, (pm xs).atKey (wkey x) (.lit (.int .i64 0)) = .lit (.int .i64 c) ∧ ∀ W, Below w.heap.size w W → (Instr.lookup 84 (.map (some b)) (.agg #[.int .i64 x.1, .int .i64 x.2]) true).run Tryz.prog W = .ok (.tuple #[.int .i64 c, .bool (decide (x ∈ xs))]) W := by
  have look : ∀ W, Below w.heap.size w W → ∃ c : Int, (pm xs).atKey (wkey x) (.lit (.int .i64 0)) = .lit (.int .i64 c) ∧ (Instr.lookup 84 (.map (some b)) (.agg #[.int .i64 x.1, .int .i64 x.2]) true).run Tryz.prog W = .ok (.tuple #[.int .i64 c, .bool (decide (x ∈ xs))]) W := by
    intro W hW
    obtain ⟨v, ps, hr, hv⟩ := World.ownsMap.look_ok (h.keep hW) keyLaw Tryz.underlying84 (zeroInt W) (plainElem_int Tryz.underlying3 (by decide)) (key_some x hx)
    obtain ⟨c, rfl, hc, _⟩ := plainElem_int_inv Tryz.underlying3 hv
    rw [has_pm xs hok x hx] at hr
    exact ⟨c, congrArg Prod.fst hc, hr⟩
  obtain ⟨c, hc, _⟩ := look w (Below.refl _ _)
  refine ⟨c, hc, fun W hW => ?_⟩
  obtain ⟨c', hc', hr⟩ := look W hW
  rw [hc] at hc'
  cases hc'
  exact hr

set_option maxHeartbeats 4000000 in
set_option maxRecDepth 100000 in
theorem sever1_any (bm b : Nat) (xs : List Wy) (x : Frm) (w : World) (hb : w.cell? ⟨bm, 0, none⟩ = some (.map (some b))) (hp : PMap w b xs) (hok : ∀ y ∈ xs, Wy.Ok y) (hx : x.Ok) :
    Calls Tryz.prog 58 #[fval x, .pointer (some ⟨bm, 0, none⟩)] w fun e w' => e = .returned (.bool (decide ((x.src, x.dst) ∈ xs))) ∧ Below w.heap.size w w' := by
  obtain ⟨n, s, d, bo⟩ := x
  have mixed : Tryz.prog.follows .mixedOrders = true := by kernel_rfl
  have hb1 := below_new w (.cells #[.int .i64 n, .int .i64 s, .int .i64 d, .string bo] 38)
  have HB := Lib.hid hb1
  have h1 := (hb1.cell (p := ⟨bm, 0, none⟩) (cell_lt hb)).trans hb
  obtain ⟨c, -, hl⟩ := look_places (hp.keep hb1) hok (s, d) ⟨hx.2.1, hx.2.2⟩
  have hR := fcells_at (x := ⟨n, s, d, bo⟩) (range_of_cells (alloc_at w (.cells #[.int .i64 n, .int .i64 s, .int .i64 d, .string bo] 38)))
  unfold fval
  simp only at hR hl ⊢
  clear hb hb1 hp hok hx
  go_enter Tryz.func58, Tryz.ntmps58
  go_upto_region 1 with fail
  generalize (w.alloc (.cells #[.int .i64 n, .int .i64 s, .int .i64 d, .string bo] 38)) = W at HB h1 hR hl ⊢
  generalize w.heap.size = N at hR ⊢
  obtain ⟨r1, r2, r3, r4⟩ := hR
  have g1 := cell_grown (a := ⟨bm, 0, none⟩) (cell_lt h1) h1
  have g3 := cell_grown (a := ⟨N, 0, none⟩) (cell_lt r1) r1
  have g4 := cell_grown (a := ⟨N, 1, none⟩) (cell_lt r2) r2
  have g5 := cell_grown (a := ⟨N, 2, none⟩) (cell_lt r3) r3
  have g6 := cell_grown (a := ⟨N, 3, none⟩) (cell_lt r4) r4
  have hw := fun n' os => wayOf_any ⟨n, s, d, bo⟩ (Sort.grow (W.drewN n') os)
  have hlk := fun n' os => hl (Sort.grow (W.drewN n') os) (grow_below ⟨n', os, rfl⟩)
  simp only at hw
  clear h1 r1 r2 r3 r4 hl
  obtain ⟨r, hr⟩ : ∃ r, decide ((s, d) ∈ xs) = r := ⟨_, rfl⟩
  rw [hr] at hlk
  have HR := Lib.hid hr
  clear hr
  go_quiet_grown (first | (go_at_call 56; exact Calls.grown_of (hw _ _)))
  have HBd := Lib.hid (HB.out.trans ((grow_below (w := W) ⟨nq, osq, rfl⟩).mono HB.out.size))
  simp only
  generalize (Sort.grow (W.drewN nq) osq) = W2 at HBd ⊢
  clear g1 g3 g4 g5 g6 hw hlk
  go_wp2
  go_ret
  exact ⟨by rw [HR.out]; rfl, HBd.out⟩

end Go.Proofs.YtalnmbfmfeaohaaGreat.flight
