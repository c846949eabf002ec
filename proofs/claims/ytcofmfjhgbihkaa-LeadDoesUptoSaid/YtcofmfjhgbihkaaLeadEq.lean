/- slices.Equal of promises and of numbers. -/
import Derived.Test.YtcofmfjhgbihkaaRows
import Derived.Test.YtcofmfjhgbihkaaLeadRes
import Derived.Deep.QuietTactic
--
namespace Go.Proofs.Ytcofmfjhgbihkaa.crush
open Go.RowKit
open Go.Proofs.Ytcofmfjhgbihkaa.kit Go.Proofs.Ytcofmfjhgbihkaa.own
set_option linter.unusedVariables false
set_option linter.unusedSimpArgs false

theorem sl_elem {α : Type} {enc : α → List Value} {k : Nat} {W : World} {a : Option Addr} {L cap : Nat} {xs : List α} (h : Sl enc k W (.slice a L cap) xs) (j : Nat) (hj : j < xs.length) :
    ∃ b off, a = some ⟨b, off, none⟩ ∧ b < W.heap.size ∧ W.rangeAt b (off + j * k) (enc xs[j]) := by
  obtain ⟨_, a', c', he, -, hcell⟩ := h
  cases he
  obtain ⟨b, off, rfl, hbl, hc⟩ := hcell (by omega)
  exact ⟨b, off, rfl, hbl, hc j hj⟩
theorem all_eq {α : Type} {xs ys : List α} {L : Nat} (h1 : xs.length = L) (h2 : ys.length = L) (h : ∀ j (hx : j < xs.length) (hy : j < ys.length), j < L → xs[j] = ys[j]) : xs = ys :=
  List.ext_getElem (h1.trans h2.symm) (fun j a b => h j a b (by omega))
theorem text_ne {x y : ByteArray} (h : ¬ x = y) : (x.toList == y.toList) = false := by
  rw [beq_eq_false_iff_ne]
  intro e
  rw [ByteArray.toList_eq, ByteArray.toList_eq] at e
  exact h (ByteArray.ext (Array.toList_inj.1 e))
theorem text_iff (x y : ByteArray) : x.toList = y.toList ↔ x = y := by
  constructor
  · intro e
    rw [ByteArray.toList_eq, ByteArray.toList_eq] at e
    exact ByteArray.ext (Array.toList_inj.1 e)
  · rintro rfl; rfl
theorem text_beq (x y : ByteArray) : (x.toList == y.toList) = decide (x = y) := by
  by_cases h : x = y
  · subst h; simp
  · rw [text_ne h]; simp [h]
theorem neq_prom (x y : PromV) (w : World) : (binOp .neq 53 (.agg (prc x).toArray) (.agg (prc y).toArray)).run Try.prog w = .ok (.bool (!decide (x = y))) w := by
  obtain ⟨a, b, c, d, e, f⟩ := x
  obtain ⟨a', b', c', d', e', f'⟩ := y
  simp only [prc]
  go_simp
  try simp only [text_beq, text_iff]
  repeat' split
  all_goals simp [*]

set_option maxHeartbeats 8000000 in
set_option maxRecDepth 100000 in
theorem equal_intL (va vb : Value) (xs ys : List Int) (w : World) (ha : Sl ic 1 w va xs) (hb : Sl ic 1 w vb ys) :
    Calls Try.prog 56 #[va, vb] w fun e w' => e = .returned (.bool (decide (xs = ys))) ∧ Below w.heap.size w w' := by
  have HA := Lib.hid ha; have HBs := Lib.hid hb
  have mixed : Try.prog.follows .mixedOrders = true := by kernel_rfl
  obtain ⟨r, hr⟩ : ∃ r, decide (xs = ys) = r := ⟨_, rfl⟩
  have HR := Lib.hid hr
  obtain ⟨a1, c1, rfl⟩ := ha.slice
  obtain ⟨a2, c2, rfl⟩ := hb.slice
  have hla := ha.1
  obtain ⟨L, hL⟩ : ∃ L, xs.length = L := ⟨_, rfl⟩
  obtain ⟨M, hM⟩ : ∃ M, ys.length = M := ⟨_, rfl⟩
  have HL := Lib.hid hL; have HM := Lib.hid hM
  rw [hL] at HA hla ⊢
  rw [hM] at HBs ⊢
  rw [hr]
  clear ha hb hL hM hr
  go_enter Try.func56, Try.ntmps56
  by_cases hLM : L = M
  · subst hLM
    go_wp2
    go_loopw [13] (fun vi wr => ∃ k : Nat, k ≤ L ∧ vi = .int .i64 k ∧ Hid (∀ j (hx : j < xs.length) (hy : j < ys.length), j < k → xs[j] = ys[j]) ∧ Below w.heap.size w wr) (fun i _ => L - (intOf i).toNat)
    case atStart => exact ⟨0, by omega, rfl, Lib.hid (fun j _ _ h => absurd h (Nat.not_lt_zero _)), Below.refl _ _⟩
    case round =>
      obtain ⟨k, hk, rfl, HN, hbw⟩ := hrel
      have HB := Lib.hid hbw
      by_cases hlt : k < L
      · have hlt' : (k : Int) < L := by omega
        have hk0 : (0 : Int) ≤ k := by omega
        have h1 : k < xs.length := by rw [HL.out]; exact hlt
        have h2 : k < ys.length := by rw [HM.out]; exact hlt
        obtain ⟨b1, o1, e1, hl1, hr1⟩ := sl_elem (HA.out.keep hbw) k h1
        obtain ⟨b2, o2, e2, hl2, hr2⟩ := sl_elem (HBs.out.keep hbw) k h2
        cases e1; cases e2
        clear hbw hl1 hl2
        obtain ⟨x, hx⟩ : ∃ x, xs[k] = x := ⟨_, rfl⟩
        obtain ⟨y, hy⟩ : ∃ y, ys[k] = y := ⟨_, rfl⟩
        have HX := Lib.hid hx; have HY := Lib.hid hy
        rw [hx] at hr1
        rw [hy] at hr2
        clear hx hy
        obtain ⟨q, hq⟩ : ∃ q, decide (x = y) = q := ⟨_, rfl⟩
        have HQq := Lib.hid hq
        have d1 := icell_at hr1
        have d2 := icell_at hr2
        rw [Nat.mul_one] at d1 d2
        have hQ : True → (x != y) = !q := fun _ => by rw [← hq]; by_cases h : x = y <;> simp [h]
        clear hr1 hr2 hq
        cases q with
        | false =>
          have HF : Hid (r = false) := Lib.hid (by rw [← HR.out]; exact decide_eq_false (fun e => by subst e; exact of_decide_eq_false HQq.out (HX.out.symm.trans HY.out)))
          go_upto_region 6 with fail
          go_quiet (fail)
          have HB2 := Lib.hid (HB.out.drewN' nq)
          clear d1 d2 hQ
          go_wp2
          go_ret
          exact ⟨by rw [HF.out]; rfl, HB2.out⟩
        | true =>
          have HN2 : Hid (∀ j (hx : j < xs.length) (hy : j < ys.length), j < k + 1 → xs[j] = ys[j]) := Lib.hid (fun j hx hy h => by
            rcases Nat.lt_or_ge j k with h3 | h3
            · exact HN.out j hx hy h3
            · obtain rfl : j = k := by omega
              exact HX.out.trans ((of_decide_eq_true HQq.out).trans HY.out.symm))
          go_upto_region 6 with fail
          go_quiet (fail)
          have HB2 := Lib.hid (HB.out.drewN' nq)
          clear d1 d2 hQ
          go_wp2
          go_roundw
          case rel => exact ⟨k + 1, by omega, by go_num, HN2, HB2.out⟩
          case measure => simp [intOf]; omega
      · have hlt' : ¬ ((k : Int) < L) := by omega
        have HT : Hid (r = true) := Lib.hid (by rw [← HR.out]; exact decide_eq_true (all_eq HL.out HM.out (fun j hx hy h => HN.out j hx hy (by omega))))
        clear hbw
        go_wp2
        go_ret
        exact ⟨by rw [HT.out]; rfl, HB.out⟩
  · have hne : True → ((L : Int) != (M : Int)) = true := fun _ => by simp; omega
    have HF : Hid (r = false) := Lib.hid (by rw [← HR.out]; exact decide_eq_false (fun e => hLM (by rw [← HL.out, ← HM.out, e])))
    clear hLM
    go_wp2
    go_ret
    exact ⟨by rw [HF.out]; rfl, Below.refl _ _⟩

set_option maxHeartbeats 8000000 in
set_option maxRecDepth 100000 in
theorem equal_prom (va vb : Value) (xs ys : List PromV) (w : World) (ha : Sl prc 6 w va xs) (hb : Sl prc 6 w vb ys) :
    Calls Try.prog 55 #[va, vb] w fun e w' => e = .returned (.bool (decide (xs = ys))) ∧ Below w.heap.size w w' := by
  have HA := Lib.hid ha; have HBs := Lib.hid hb
  have mixed : Try.prog.follows .mixedOrders = true := by kernel_rfl
  obtain ⟨r, hr⟩ : ∃ r, decide (xs = ys) = r := ⟨_, rfl⟩
  have HR := Lib.hid hr
  obtain ⟨a1, c1, rfl⟩ := ha.slice
  obtain ⟨a2, c2, rfl⟩ := hb.slice
  have hla := ha.1
  obtain ⟨L, hL⟩ : ∃ L, xs.length = L := ⟨_, rfl⟩
  obtain ⟨M, hM⟩ : ∃ M, ys.length = M := ⟨_, rfl⟩
  have HL := Lib.hid hL; have HM := Lib.hid hM
  rw [hL] at HA hla ⊢
  rw [hM] at HBs ⊢
  rw [hr]
  clear ha hb hL hM hr
  go_enter Try.func55, Try.ntmps55
  by_cases hLM : L = M
  · subst hLM
    go_wp2
    go_loopw [13] (fun vi wr => ∃ k : Nat, k ≤ L ∧ vi = .int .i64 k ∧ Hid (∀ j (hx : j < xs.length) (hy : j < ys.length), j < k → xs[j] = ys[j]) ∧ Below w.heap.size w wr) (fun i _ => L - (intOf i).toNat)
    case atStart => exact ⟨0, by omega, rfl, Lib.hid (fun j _ _ h => absurd h (Nat.not_lt_zero _)), Below.refl _ _⟩
    case round =>
      obtain ⟨k, hk, rfl, HN, hbw⟩ := hrel
      have HB := Lib.hid hbw
      by_cases hlt : k < L
      · have hlt' : (k : Int) < L := by omega
        have hk0 : (0 : Int) ≤ k := by omega
        have h1 : k < xs.length := by rw [HL.out]; exact hlt
        have h2 : k < ys.length := by rw [HM.out]; exact hlt
        obtain ⟨b1, o1, e1, hl1, hr1⟩ := sl_elem (HA.out.keep hbw) k h1
        obtain ⟨b2, o2, e2, hl2, hr2⟩ := sl_elem (HBs.out.keep hbw) k h2
        cases e1; cases e2
        clear hbw hl1 hl2
        obtain ⟨x, hx⟩ : ∃ x, xs[k] = x := ⟨_, rfl⟩
        obtain ⟨y, hy⟩ : ∃ y, ys[k] = y := ⟨_, rfl⟩
        have HX := Lib.hid hx; have HY := Lib.hid hy
        rw [hx] at hr1
        rw [hy] at hr2
        clear hx hy
        obtain ⟨q, hq⟩ : ∃ q, decide (x = y) = q := ⟨_, rfl⟩
        have HQq := Lib.hid hq
        have hQ := fun u => neq_prom x y u
        rw [hq] at hQ
        obtain ⟨m1, n1, h1, r1, a1, t1⟩ := x
        obtain ⟨m2, n2, h2, r2, a2, t2⟩ := y
        simp only [prc] at hQ
        have d10 : wr.cell? ⟨b1, o1 + k * 6, none⟩ = some (.int .i64 m1) := hr1 0 _ rfl
        have d11 : wr.cell? ⟨b1, o1 + k * 6 + 1, none⟩ = some (.int .i64 n1) := hr1 1 _ rfl
        have d12 : wr.cell? ⟨b1, o1 + k * 6 + 2, none⟩ = some (.bool h1) := hr1 2 _ rfl
        have d13 : wr.cell? ⟨b1, o1 + k * 6 + 3, none⟩ = some (.int .i64 r1) := hr1 3 _ rfl
        have d14 : wr.cell? ⟨b1, o1 + k * 6 + 4, none⟩ = some (.int .i64 a1) := hr1 4 _ rfl
        have d15 : wr.cell? ⟨b1, o1 + k * 6 + 5, none⟩ = some (.string t1) := hr1 5 _ rfl
        have d20 : wr.cell? ⟨b2, o2 + k * 6, none⟩ = some (.int .i64 m2) := hr2 0 _ rfl
        have d21 : wr.cell? ⟨b2, o2 + k * 6 + 1, none⟩ = some (.int .i64 n2) := hr2 1 _ rfl
        have d22 : wr.cell? ⟨b2, o2 + k * 6 + 2, none⟩ = some (.bool h2) := hr2 2 _ rfl
        have d23 : wr.cell? ⟨b2, o2 + k * 6 + 3, none⟩ = some (.int .i64 r2) := hr2 3 _ rfl
        have d24 : wr.cell? ⟨b2, o2 + k * 6 + 4, none⟩ = some (.int .i64 a2) := hr2 4 _ rfl
        have d25 : wr.cell? ⟨b2, o2 + k * 6 + 5, none⟩ = some (.string t2) := hr2 5 _ rfl
        clear hr1 hr2 hq
        cases q with
        | false =>
          have HF : Hid (r = false) := Lib.hid (by rw [← HR.out]; exact decide_eq_false (fun e => by subst e; exact of_decide_eq_false HQq.out (HX.out.symm.trans HY.out)))
          go_upto_region 6 with fail
          go_quiet (fail)
          have HB2 := Lib.hid (HB.out.drewN' nq)
          clear d10 d11 d12 d13 d14 d15 d20 d21 d22 d23 d24 d25 hQ
          go_wp2
          go_ret
          exact ⟨by rw [HF.out]; rfl, HB2.out⟩
        | true =>
          have HN2 : Hid (∀ j (hx : j < xs.length) (hy : j < ys.length), j < k + 1 → xs[j] = ys[j]) := Lib.hid (fun j hx hy h => by
            rcases Nat.lt_or_ge j k with h3 | h3
            · exact HN.out j hx hy h3
            · obtain rfl : j = k := by omega
              exact HX.out.trans ((of_decide_eq_true HQq.out).trans HY.out.symm))
          go_upto_region 6 with fail
          go_quiet (fail)
          have HB2 := Lib.hid (HB.out.drewN' nq)
          clear d10 d11 d12 d13 d14 d15 d20 d21 d22 d23 d24 d25 hQ
          go_wp2
          go_roundw
          case rel => exact ⟨k + 1, by omega, by go_num, HN2, HB2.out⟩
          case measure => simp [intOf]; omega
      · have hlt' : ¬ ((k : Int) < L) := by omega
        have HT : Hid (r = true) := Lib.hid (by rw [← HR.out]; exact decide_eq_true (all_eq HL.out HM.out (fun j hx hy h => HN.out j hx hy (by omega))))
        clear hbw
        go_wp2
        go_ret
        exact ⟨by rw [HT.out]; rfl, HB.out⟩
  · have hne : True → ((L : Int) != (M : Int)) = true := fun _ => by simp; omega
    have HF : Hid (r = false) := Lib.hid (by rw [← HR.out]; exact decide_eq_false (fun e => hLM (by rw [← HL.out, ← HM.out, e])))
    clear hLM
    go_wp2
    go_ret
    exact ⟨by rw [HF.out]; rfl, Below.refl _ _⟩
/-- Are two leaders the same? -/
def sameB (l m : LeadV) : Bool := decide (l.st = m.st) && ((decide (l.r = m.r) && decide (l.m = m.m)) && (decide (l.ps = m.ps) && (decide (l.has = m.has) && (decide (l.val = m.val) && decide (l.ak = m.ak)))))
theorem sameB_self (l : LeadV) : sameB l l = true := by unfold sameB; simp
set_option maxHeartbeats 16000000 in
set_option maxRecDepth 100000 in
theorem SameL_any (va vb : Value) (l m : LeadV) (w : World) (ha : LdR w va l) (hb : LdR w vb m) : Calls Try.prog 9 #[va, vb] w fun e w' => e = .returned (.bool (sameB l m)) ∧ Below w.heap.size w w' := by
  obtain ⟨a1, a2, rfl, r1, r2⟩ := ha
  obtain ⟨b1, b2, rfl, s1, s2⟩ := hb
  have HE1 := Lib.hid (fun u (hu : Below w.heap.size w u) => equal_prom a1 b1 _ _ u (r1.keep hu) (s1.keep hu))
  have HE2 := Lib.hid (fun u (hu : Below w.heap.size w u) => equal_intL a2 b2 _ _ u (r2.keep hu) (s2.keep hu))
  obtain ⟨x1, y1, rfl⟩ := r1.slice; obtain ⟨x2, y2, rfl⟩ := r2.slice
  obtain ⟨p1, q1, rfl⟩ := s1.slice; obtain ⟨p2, q2, rfl⟩ := s2.slice
  unfold sameB LeadV.agg
  obtain ⟨t0, h0⟩ : ∃ t, decide (l.st = m.st) = t := ⟨_, rfl⟩
  obtain ⟨tr, hr⟩ : ∃ t, decide (l.r = m.r) = t := ⟨_, rfl⟩
  obtain ⟨tm, hm⟩ : ∃ t, decide (l.m = m.m) = t := ⟨_, rfl⟩
  obtain ⟨t1, h1⟩ : ∃ t, decide (l.ps = m.ps) = t := ⟨_, rfl⟩
  obtain ⟨th, hh⟩ : ∃ t, decide (l.has = m.has) = t := ⟨_, rfl⟩
  obtain ⟨tv, hv⟩ : ∃ t, decide (l.val = m.val) = t := ⟨_, rfl⟩
  obtain ⟨t2, h2⟩ : ∃ t, decide (l.ak = m.ak) = t := ⟨_, rfl⟩
  rw [h1] at HE1; rw [h2] at HE2
  rw [h0, hr, hm, h1, hh, hv, h2]
  have e0 : True → (l.st == m.st) = t0 := fun _ => by rw [← h0]; by_cases h : l.st = m.st <;> simp [h]
  have er : True → (l.r == m.r) = tr := fun _ => by rw [← hr]; by_cases h : l.r = m.r <;> simp [h]
  have em : True → (l.m == m.m) = tm := fun _ => by rw [← hm]; by_cases h : l.m = m.m <;> simp [h]
  have eh : True → (l.has == m.has) = th := fun _ => by rw [← hh]; cases l.has <;> cases m.has <;> rfl
  have ev : True → (l.val.toList == m.val.toList) = tv := fun _ => by rw [text_beq, hv]
  clear r1 r2 s1 s2 h0 hr hm h1 hh hv h2
  have h2 := two_atL w (.cells #[.int .i64 l.st, .int .i64 l.r, .int .i64 l.m, .slice x1 l.ps.length y1, .bool l.has, .string l.val, .slice x2 l.ak.length y2] 27) (.cells #[.int .i64 m.st, .int .i64 m.r, .int .i64 m.m, .slice p1 m.ps.length q1, .bool m.has, .string m.val, .slice p2 m.ak.length q2] 27)
  have hB : Below w.heap.size w ((w.alloc (.cells #[.int .i64 l.st, .int .i64 l.r, .int .i64 l.m, .slice x1 l.ps.length y1, .bool l.has, .string l.val, .slice x2 l.ak.length y2] 27)).alloc (.cells #[.int .i64 m.st, .int .i64 m.r, .int .i64 m.m, .slice p1 m.ps.length q1, .bool m.has, .string m.val, .slice p2 m.ak.length q2] 27)) := (below_new w _).alloc (by simp) _
  have hX : LBox _ w.heap.size l.st l.r l.m (.slice x1 l.ps.length y1) l.has l.val (.slice x2 l.ak.length y2) := h2.1
  have hY : LBox _ (w.heap.size + 1) m.st m.r m.m (.slice p1 m.ps.length q1) m.has m.val (.slice p2 m.ak.length q2) := h2.2
  have HB := Lib.hid hB; have HX := Lib.hid hX; have HY := Lib.hid hY
  clear hB hX hY h2
  go_enter Try.func9, Try.ntmps9
  go_upto_region 1 with fail
  generalize ((w.alloc _).alloc _) = W at HB HX HY ⊢
  obtain ⟨c0, c1, c2, c3, c4, c5, c6⟩ := HX.out.cells
  obtain ⟨d0, d1, d2, d3, d4, d5, d6⟩ := HY.out.cells
  have hcs : t0 = false ∨ (t0 = true ∧ tr = false) ∨ (t0 = true ∧ tr = true ∧ tm = false) ∨ (t0 = true ∧ tr = true ∧ tm = true ∧ t1 = false) ∨ (t0 = true ∧ tr = true ∧ tm = true ∧ t1 = true ∧ th = false) ∨ (t0 = true ∧ tr = true ∧ tm = true ∧ t1 = true ∧ th = true ∧ tv = false) ∨ (t0 = true ∧ tr = true ∧ tm = true ∧ t1 = true ∧ th = true ∧ tv = true) := by cases t0 <;> cases tr <;> cases tm <;> cases t1 <;> cases th <;> cases tv <;> simp
  rcases hcs with rfl | ⟨rfl, rfl⟩ | ⟨rfl, rfl, rfl⟩ | ⟨rfl, rfl, rfl, rfl⟩ | ⟨rfl, rfl, rfl, rfl, rfl⟩ | ⟨rfl, rfl, rfl, rfl, rfl, rfl⟩ | ⟨rfl, rfl, rfl, rfl, rfl, rfl⟩
  all_goals
    go_wp2_with (first
      | (go_at_call 55; refine (HE1.out _ HB.out).mono ?_; rintro e w5 ⟨rfl, hb⟩; have HB1 := Lib.hid (HB.out.trans (hb.mono HB.out.size)); have HX1 := Lib.hid (HX.out.keep hb); have HY1 := Lib.hid (HY.out.keep hb); clear hb c0 c1 c2 c3 c4 c5 c6 d0 d1 d2 d3 d4 d5 d6; obtain ⟨c0, c1, c2, c3, c4, c5, c6⟩ := HX1.out.cells; obtain ⟨d0, d1, d2, d3, d4, d5, d6⟩ := HY1.out.cells)
      | (go_at_call 56; refine (HE2.out _ HB1.out).mono ?_; rintro e w6 ⟨rfl, hb⟩; have HB2 := Lib.hid (HB1.out.trans (hb.mono HB1.out.size)); clear hb c0 c1 c2 c3 c4 c5 c6 d0 d1 d2 d3 d4 d5 d6))
    go_ret
    first | exact ⟨rfl, HB2.out⟩ | exact ⟨rfl, HB1.out⟩ | exact ⟨rfl, HB.out⟩
end Go.Proofs.Ytcofmfjhgbihkaa.crush
