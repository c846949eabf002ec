/- slices.Equal of rows of a map. -/
import Derived.Test.YtcofmfjhgbihkaaRows
import Derived.Test.YtcofmfjhgbihkaaMapsOk
--
namespace Go.Proofs.Ytcofmfjhgbihkaa.crush
open Go.RowKit
open Go.Proofs.Ytcofmfjhgbihkaa.kit Go.Proofs.Ytcofmfjhgbihkaa.own
set_option linter.unusedVariables false
set_option linter.unusedSimpArgs false

theorem all_eq {α : Type} {xs ys : List α} {L : Nat} (h1 : xs.length = L) (h2 : ys.length = L) (h : ∀ j (hx : j < xs.length) (hy : j < ys.length), j < L → xs[j] = ys[j]) : xs = ys :=
  List.ext_getElem (h1.trans h2.symm) (fun j a b => h j a b (by omega))
theorem neq_osd (x y : OsdV) (w : World) : (binOp .neq 132 (.agg (oc x).toArray) (.agg (oc y).toArray)).run Try.prog w = .ok (.bool (!decide (x = y))) w := by
  obtain ⟨a, b, c, d⟩ := x
  obtain ⟨a', b', c', d'⟩ := y
  simp only [oc]
  go_simp
  repeat' split
  all_goals simp [*]
theorem neq_pool2 (x y : PoolV) (w : World) : (binOp .neq 85 (.agg (pc x).toArray) (.agg (pc y).toArray)).run Try.prog w = .ok (.bool (!decide (x = y))) w := by
  obtain ⟨a, b, c, d⟩ := x
  obtain ⟨a', b', c', d'⟩ := y
  simp only [pc]
  go_simp
  repeat' split
  all_goals simp [*]
theorem neq_ban (x y : BanV) (w : World) : (binOp .neq 136 (.agg (bc x).toArray) (.agg (bc y).toArray)).run Try.prog w = .ok (.bool (!decide (x = y))) w := by
  obtain ⟨a, b⟩ := x
  obtain ⟨a', b'⟩ := y
  simp only [bc]
  go_simp
  repeat' split
  all_goals simp [*]

set_option maxHeartbeats 8000000 in
set_option maxRecDepth 100000 in
theorem equal_int (va vb : Value) (xs ys : List Int) (w : World) (ha : Sl ic 1 w va xs) (hb : Sl ic 1 w vb ys) :
    Calls Try.prog 56 #[va, vb] w fun e w' => e = .returned (.bool (decide (xs = ys))) ∧ Below w.heap.size w w' := by
  have HA := Lib.hid ha; have HBs := Lib.hid hb
  have mixed : Try.prog.follows .mixedOrders = true := by kernel_rfl
  obtain ⟨r, hr⟩ : ∃ r, decide (xs = ys) = r := ⟨_, rfl⟩
  have HR := Lib.hid hr
  obtain ⟨a1, c1, rfl⟩ := ha.slice
  obtain ⟨a2, c2, rfl⟩ := hb.slice
  have hla := ha.1
  obtain ⟨L, hL⟩ : ∃ L, xs.length = L := ⟨_, rfl⟩
  obtain ⟨M, hM⟩ : ∃ M, ys.length = M := ⟨_, rfl⟩
  have HL := Lib.hid hL; have HM := Lib.hid hM
  rw [hL] at HA hla ⊢
  rw [hM] at HBs ⊢
  rw [hr]
  clear ha hb hL hM hr
  go_enter Try.func56, Try.ntmps56
  by_cases hLM : L = M
  · subst hLM
    go_wp2
    go_loopw [13] (fun vi wr => ∃ k : Nat, k ≤ L ∧ vi = .int .i64 k ∧ Hid (∀ j (hx : j < xs.length) (hy : j < ys.length), j < k → xs[j] = ys[j]) ∧ Below w.heap.size w wr) (fun i _ => L - (intOf i).toNat)
    case atStart => exact ⟨0, by omega, rfl, Lib.hid (fun j _ _ h => absurd h (Nat.not_lt_zero _)), Below.refl _ _⟩
    case round =>
      obtain ⟨k, hk, rfl, HN, hbw⟩ := hrel
      have HB := Lib.hid hbw
      by_cases hlt : k < L
      · have hlt' : (k : Int) < L := by omega
        have hk0 : (0 : Int) ≤ k := by omega
        have h1 : k < xs.length := by rw [HL.out]; exact hlt
        have h2 : k < ys.length := by rw [HM.out]; exact hlt
        obtain ⟨b1, o1, e1, hl1, hr1⟩ := sl_elem (HA.out.keep hbw) k h1
        obtain ⟨b2, o2, e2, hl2, hr2⟩ := sl_elem (HBs.out.keep hbw) k h2
        cases e1; cases e2
        clear hbw hl1 hl2
        obtain ⟨x, hx⟩ : ∃ x, xs[k] = x := ⟨_, rfl⟩
        obtain ⟨y, hy⟩ : ∃ y, ys[k] = y := ⟨_, rfl⟩
        have HX := Lib.hid hx; have HY := Lib.hid hy
        rw [hx] at hr1
        rw [hy] at hr2
        clear hx hy
        obtain ⟨q, hq⟩ : ∃ q, decide (x = y) = q := ⟨_, rfl⟩
        have HQq := Lib.hid hq
        have d1 := icell_at hr1
        have d2 := icell_at hr2
        rw [Nat.mul_one] at d1 d2
        have hQ : True → (x != y) = !q := fun _ => by rw [← hq]; by_cases h : x = y <;> simp [h]
        clear hr1 hr2 hq
        cases q with
        | false =>
          have HF : Hid (r = false) := Lib.hid (by rw [← HR.out]; exact decide_eq_false (fun e => by subst e; exact of_decide_eq_false HQq.out (HX.out.symm.trans HY.out)))
          go_upto_region 6 with fail
          go_quiet (fail)
          have HB2 := Lib.hid (HB.out.drewN' nq)
          clear d1 d2 hQ
          go_wp2
          go_ret
          exact ⟨by rw [HF.out]; rfl, HB2.out⟩
        | true =>
          have HN2 : Hid (∀ j (hx : j < xs.length) (hy : j < ys.length), j < k + 1 → xs[j] = ys[j]) := Lib.hid (fun j hx hy h => by
            rcases Nat.lt_or_ge j k with h3 | h3
            · exact HN.out j hx hy h3
            · obtain rfl : j = k := by omega
              exact HX.out.trans ((of_decide_eq_true HQq.out).trans HY.out.symm))
          go_upto_region 6 with fail
          go_quiet (fail)
          have HB2 := Lib.hid (HB.out.drewN' nq)
          clear d1 d2 hQ
          go_wp2
          go_roundw
          case rel => exact ⟨k + 1, by omega, by go_num, HN2, HB2.out⟩
          case measure => simp [intOf]; omega
      · have hlt' : ¬ ((k : Int) < L) := by omega
        have HT : Hid (r = true) := Lib.hid (by rw [← HR.out]; exact decide_eq_true (all_eq HL.out HM.out (fun j hx hy h => HN.out j hx hy (by omega))))
        clear hbw
        go_wp2
        go_ret
        exact ⟨by rw [HT.out]; rfl, HB.out⟩
  · have hne : True → ((L : Int) != (M : Int)) = true := fun _ => by simp; omega
    have HF : Hid (r = false) := Lib.hid (by rw [← HR.out]; exact decide_eq_false (fun e => hLM (by rw [← HL.out, ← HM.out, e])))
    clear hLM
    go_wp2
    go_ret
    exact ⟨by rw [HF.out]; rfl, Below.refl _ _⟩

/-- Are two maps the same? -/
def sameE (m n : MapV) : Bool := decide (m.epoch = n.epoch) && (decide (m.hosts = n.hosts) && (decide (m.osds = n.osds) && (decide (m.pools = n.pools) && decide (m.bans = n.bans))))
end Go.Proofs.Ytcofmfjhgbihkaa.crush
