/- slices.Compact of ways, whatever they are. -/
import Derived.Test.YtalnmbfmfeaohaaGreatRows
import Derived.Test.YtalnmbfmfeaohaaGreatFlightComp
import Derived.Test.YtalnmbfmfeaohaaGreatFlightDel
namespace Go.Proofs.YtalnmbfmfeaohaaGreat.flight
open Go.RowKit
open Go.Proofs.YtalnmbfmfeaohaaGreat.kit Go.Proofs.YtalnmbfmfeaohaaGreat.own
set_option linter.unusedVariables false

theorem compW_ne {α : Type} [DecidableEq α] : ∀ (l : List α), l ≠ [] → compW l ≠ []
  | [], h => absurd rfl h
  | [x], _ => by simp [compW]
  | x :: y :: r, _ => by
    rw [compW]
    split
    · exact compW_ne (y :: r) (by simp)
    · simp
theorem compW_snoc {α : Type} [DecidableEq α] : ∀ (l : List α) (h : l ≠ []) (x : α), compW (l ++ [x]) = if l.getLast h = x then compW l else compW l ++ [x]
  | [], h, _ => absurd rfl h
  | [y], _, x => by
    show compW [y, x] = _
    rw [compW]
    by_cases e : y = x <;> simp [e, compW]
  | z :: y :: r, _, x => by
    have ih := compW_snoc (y :: r) (by simp) x
    show compW (z :: y :: (r ++ [x])) = _
    rw [compW, show y :: (r ++ [x]) = (y :: r) ++ [x] from rfl, ih]
    have e1 : (z :: y :: r).getLast (by simp) = (y :: r).getLast (by simp) := by simp
    rw [e1, compW]
    split <;> split <;> simp
theorem compW_take {α : Type} [DecidableEq α] (xs : List α) (m : Nat) (hm : m + 1 < xs.length) : compW (xs.take (m + 2)) = if xs[m] = xs[m + 1] then compW (xs.take (m + 1)) else compW (xs.take (m + 1)) ++ [xs[m + 1]] := by
  have h1 : xs.take (m + 2) = xs.take (m + 1) ++ [xs[m + 1]] := List.take_succ_eq_append_getElem hm
  have hne : xs.take (m + 1) ≠ [] := by
    intro e
    have h := congrArg List.length e
    rw [List.length_take, List.length_nil] at h
    omega
  have hl : (xs.take (m + 1)).getLast hne = xs[m] := by
    rw [List.getLast_eq_getElem]
    simp [List.getElem_take, Nat.min_eq_left (show m + 1 ≤ xs.length from Nat.le_of_lt hm)]
  rw [h1, compW_snoc _ hne, hl]
theorem compW_len {α : Type} [DecidableEq α] : ∀ (l : List α), (compW l).length ≤ l.length
  | [] => by simp [compW]
  | [x] => by simp [compW]
  | x :: y :: r => by
    have ih := compW_len (y :: r)
    rw [compW]
    split <;> simp only [List.length_cons] at * <;> omega
theorem compW_mem {α : Type} [DecidableEq α] : ∀ (l : List α) (z : α), z ∈ compW l ↔ z ∈ l
  | [], z => by simp [compW]
  | [x], z => by simp [compW]
  | x :: y :: r, z => by
    have ih := compW_mem (y :: r) z
    rw [compW]
    split
    · rename_i e; subst e; rw [ih]; simp
    · rw [List.mem_cons, ih]; simp
/-- Nothing is done to a row whose neighbours are apart. -/
theorem compW_self {α : Type} [DecidableEq α] : ∀ (l : List α), (∀ i (h : i + 1 < l.length), l[i] ≠ l[i + 1]) → compW l = l
  | [], _ => rfl
  | [x], _ => rfl
  | x :: y :: r, h => by
    have h0 := h 0 (by simp)
    simp only [List.getElem_cons_zero, List.getElem_cons_succ] at h0
    rw [compW, if_neg h0, compW_self (y :: r) (fun i hi => by
      have := h (i + 1) (by simp only [List.length_cons] at hi ⊢; omega)
      simpa using this)]

theorem neq_way' (f g : Wy) (w : World) : (binOp .neq 40 (.agg #[.int .i64 f.1, .int .i64 f.2]) (.agg #[.int .i64 g.1, .int .i64 g.2])).run Tryz.prog w = .ok (.bool (!decide (f = g))) w := by
  obtain ⟨a, b⟩ := f
  obtain ⟨a', b'⟩ := g
  by_cases h : (a, b) = (a', b')
  · obtain ⟨rfl, rfl⟩ := Prod.mk.inj h
    simp only
    go_simp
  · have : ¬ (a = a' ∧ b = b') := fun hh => h (by rw [hh.1, hh.2])
    simp only [decide_eq_false h]
    go_simp
    intro h1 h2
    exact this ⟨h1, h2⟩
def zwy (n : Nat) : List Value := (Builtin.zeroCells #[.int .i64 0, .int .i64 0] n).toList
theorem zeroWay (w : World) : (zeroValue 40).run Tryz.prog w = .ok (.agg #[.int .i64 0, .int .i64 0]) w := by kernel_rfl
theorem run_clear_way (w : World) (ty : TypeId) (g o n c : Nat) (hn : 0 < n) (hth : w.there g o (n * 2)) :
    (Builtin.clear_ #[23] ty #[.slice (some ⟨g, o, none⟩) n c]).run Tryz.prog w = .ok (.tuple #[]) (w.setCells g o (zwy n)) := by
  have hs : (Value.cells (.agg #[.int .i64 0, .int .i64 0])).size = 2 := rfl
  exact run_clear_row (P := Tryz.prog) w 23 40 ty (.agg #[.int .i64 0, .int .i64 0]) Tryz.underlying23 zeroWay g o n c hn (by rw [hs]; exact hth) (by simp [Value.oneCell', Value.cells])

set_option maxHeartbeats 8000000 in
set_option maxRecDepth 100000 in
theorem compW_any (g cap : Nat) (xs : List Wy) (w : World) (h : OwnAt wc 2 40 w g cap xs) :
    Calls Tryz.prog 68 #[.slice (some ⟨g, 0, none⟩) xs.length cap] w fun e w' => e = .returned (.slice (some ⟨g, 0, none⟩) (compW xs).length cap) ∧ OwnAt wc 2 40 w' g cap (compW xs) ∧ w.grownBy w' (some g) := by
  have hl := h.le; have hm := h.max
  unfold maxLen at hm
  have HAt := Lib.hid h
  obtain ⟨L, hL⟩ : ∃ L, xs.length = L := ⟨_, rfl⟩
  have HL := Lib.hid hL
  rw [hL] at hl ⊢
  clear h hL
  by_cases h2 : L < 2
  · have h2' : (L : Int) < 2 := by omega
    have HE : Hid (compW xs = xs) := Lib.hid (compW_self xs (fun i hi => by have := HL.out; omega))
    go_enter Tryz.func68, Tryz.ntmps68
    go_wp2
    go_ret
    rw [HE.out, HL.out]
    exact ⟨rfl, HAt.out, grown_refl _ _⟩
  · have h2' : ¬ (L : Int) < 2 := by omega
    go_enter Tryz.func68, Tryz.ntmps68
    go_wp2
    go_loopw [3] (fun vk wr => ∃ (k : Nat), vk = .int .i64 k ∧ 1 ≤ k ∧ k ≤ L ∧ Below w.heap.size w wr ∧ compW (xs.take k) = xs.take k) (fun vk _ => L - (intOf vk).toNat)
    case atStart => exact ⟨1, rfl, by omega, by omega, Below.refl _ _, compW_self _ (fun i hi => by simp at hi; omega)⟩
    case round =>
      obtain ⟨k, rfl, hk1, hkL, hb, hcm⟩ := hrel
      have HB := Lib.hid hb; have HCm := Lib.hid hcm
      clear hb hcm
      by_cases hlt : k < L
      · obtain ⟨m, rfl⟩ : ∃ m, k = m + 1 := ⟨k - 1, by omega⟩
        have hlt' : ((m + 1 : Nat) : Int) < L := by omega
        have hm0 : (0 : Int) ≤ m := by omega
        have hm1 : (m : Int) < L := by omega
        have hwp : IntKind.i64.wrap (m : Int) = (m : Int) := by rw [IntKind.wrap_i64]; omega
        have hi : m + 1 < xs.length := by rw [HL.out]; exact hlt
        have HCt := Lib.hid (compW_take xs m hi)
        have hat := HAt.out.block (HB.out.block g HAt.out.lt)
        obtain ⟨c1, c2⟩ := wcells_at (hat.row wc_len (m + 1) hi)
        obtain ⟨d1, d2⟩ := wcells_at (hat.row wc_len m (by omega))
        obtain ⟨x, hx⟩ : ∃ x, xs[m + 1] = x := ⟨_, rfl⟩
        obtain ⟨y, hy⟩ : ∃ y, xs[m]'(by omega) = y := ⟨_, rfl⟩
        rw [hx] at c1 c2 HCt
        rw [hy] at d1 d2 HCt
        have HAt2 := Lib.hid hat
        have heq := eql_way' x y
        have HXy := Lib.hid (And.intro hx hy)
        clear hat hx hy
        by_cases hxy : x = y
        · subst hxy
          rw [if_pos rfl] at HCt
          simp only [decide_true] at heq
          obtain ⟨p, q⟩ := x
          simp only at c1 c2 d1 d2 heq
          go_upto_region 6 with fail
          go_quiet (fail)
          have HBn := Lib.hid (HB.out.drewN' nq)
          clear c1 c2 d1 d2 heq
          go_wp2
          have HAt3 := Lib.hid (HAt2.out.block (show (wr.drewN nq).heap[g]? = wr.heap[g]? from rfl))
          have HGr3 := Lib.hid (grown_of_below HBn.out (some g))
          obtain ⟨K, hK⟩ : ∃ K, m + 1 = K := ⟨_, rfl⟩
          have HSt : Hid (xs.take K = compW (xs.take (K + 1))) := Lib.hid (by rw [← hK]; show _ = compW (List.take (m + 2) xs); rw [HCt.out]; exact HCm.out.symm)
          simp only [hK] at hlt ⊢
          have hMl : K < L := by omega
          obtain ⟨M, hM⟩ : ∃ M, L - K = M := ⟨_, rfl⟩
          obtain ⟨C, hC⟩ : ∃ C, cap - K = C := ⟨_, rfl⟩
          have hKM : K + M = L := by omega
          have hCC : K + C = cap := by omega
          rw [hM, hC]
          have hMC : M ≤ C := by omega
          have hC63 : C ≤ 9223372036854775807 := by omega
          have HNs := Lib.hid (And.intro hKM hCC)
          clear hM hC HB HCt HCm HXy HAt2 hwp hm0 hm1 hi hk1 hkL hlt' HBn hK hMl hKM hCC
          generalize wr.drewN nq = W2 at HAt3 HGr3 ⊢
          go_loopw [3, 5] (fun v3 v5 wr2 => ∃ (kk j : Nat) (ys : List Wy), v3 = .int .i64 kk ∧ v5 = .int .i64 ((j + 1 : Nat) : Int) ∧ j + 1 ≤ M ∧ kk ≤ K + j ∧ ys.length = L ∧ ys.take kk = compW (xs.take (K + j + 1)) ∧ ys.drop (K + j) = xs.drop (K + j) ∧ OwnAt wc 2 40 wr2 g cap ys ∧ w.grownBy wr2 (some g)) (fun _ v5 _ => M - (intOf v5).toNat)
          case atStart => exact ⟨K, 0, xs, rfl, rfl, by have := HNs.out; omega, by omega, HL.out, HSt.out, rfl, HAt3.out, HGr3.out⟩
          case round =>
            obtain ⟨kk, j, ys, rfl, rfl, hjM, hkk, hyl, hyt, hyd, hat, hgr⟩ := hrel
            have HAt4 := Lib.hid hat; have HGr4 := Lib.hid hgr; have HYl := Lib.hid hyl; have HYt := Lib.hid hyt; have HYd := Lib.hid hyd
            clear hat hgr hyl hyt hyd
            have hkI : (0 : Int) ≤ kk := by omega
            have hkL : (kk : Int) < L := by have := HNs.out; omega
            by_cases hlt : j + 1 < M
            · have hlt' : ((j + 1 : Nat) : Int) < M := by omega
              have hj0 : (0 : Int) ≤ j := by omega
              have hj1 : (j : Int) < M := by omega
              have hwp : IntKind.i64.wrap (j : Int) = (j : Int) := by rw [IntKind.wrap_i64]; omega
              have hix : K + j + 1 < xs.length := by rw [HL.out]; have := HNs.out; omega
              have hiy : K + j + 1 < ys.length := by rw [HYl.out]; have := HNs.out; omega
              obtain ⟨g1, hd1⟩ := drop_get HYd.out (show K + j < ys.length by omega) (show K + j < xs.length by omega)
              obtain ⟨g2, hd2⟩ := drop_get hd1 hiy hix
              have HCt := Lib.hid (compW_take xs (K + j) hix)
              have r1 := HAt4.out.row wc_len (K + j + 1) hiy
              have r2 := HAt4.out.row wc_len (K + j) (by omega)
              rw [g2, show (K + j + 1) * 2 = K * 2 + (j + 1) * 2 by omega] at r1
              rw [g1, show (K + j) * 2 = K * 2 + j * 2 by omega] at r2
              obtain ⟨c1, c2⟩ := wcells_at r1
              obtain ⟨d1, d2⟩ := wcells_at r2
              obtain ⟨x, hx⟩ : ∃ x, xs[K + j + 1] = x := ⟨_, rfl⟩
              obtain ⟨y, hy⟩ : ∃ y, xs[K + j]'(by omega) = y := ⟨_, rfl⟩
              rw [hx, hy] at HCt
              rw [hx] at c1 c2
              rw [hy] at d1 d2
              have hne := neq_way' x y
              have HD1 := Lib.hid hd1
              clear r1 r2 g1 g2 hd1 hd2 hx hy
              by_cases hxy : x = y
              · subst hxy
                rw [if_pos rfl] at HCt
                simp only [decide_true, Bool.not_true] at hne
                obtain ⟨p, q⟩ := x
                simp only at c1 c2 d1 d2 hne
                go_upto_region 11 with fail
                go_quiet (fail)
                have HAt5 := Lib.hid (HAt4.out.block (show (wr.drewN nq).heap[g]? = wr.heap[g]? from rfl))
                have HGr5 := Lib.hid (grown_trans HGr4.out (grown_of_below ((Below.refl wr.heap.size wr).drewN' nq) (some g)))
                clear c1 c2 d1 d2 hne
                go_wp2
                go_roundw
                case rel => exact ⟨kk, j + 1, ys, rfl, by go_num, by omega, by omega, HYl.out, by rw [HYt.out]; exact HCt.out.symm, HD1.out, HAt5.out, HGr5.out⟩
                case measure => simp [intOf]; omega
              · rw [if_neg (fun e => hxy e.symm)] at HCt
                rw [decide_eq_false hxy] at hne
                simp only [Bool.not_false] at hne
                have hik : kk < ys.length := by rw [HYl.out]; have := HNs.out; omega
                obtain ⟨p, q⟩ := x
                obtain ⟨p2, q2⟩ := y
                simp only at c1 c2 d1 d2 hne
                clear hxy
                go_upto_region 11 with fail
                go_quiet (fail)
                have HAt5 := Lib.hid (HAt4.out.block (show (wr.drewN nq).heap[g]? = wr.heap[g]? from rfl))
                have HGr5 := Lib.hid (grown_trans HGr4.out (grown_of_below ((Below.refl wr.heap.size wr).drewN' nq) (some g)))
                have c1' : (wr.drewN nq).cell? ⟨g, K * 2 + (j + 1) * 2, none⟩ = some (.int .i64 p) := c1
                have c2' : (wr.drewN nq).cell? ⟨g, K * 2 + (j + 1) * 2 + 1, none⟩ = some (.int .i64 q) := c2
                clear c1 c2 d1 d2 hne
                generalize wr.drewN nq = W5 at HAt5 HGr5 c1' c2' ⊢
                obtain ⟨k0, k1⟩ := wcells_at (HAt5.out.row wc_len kk hik)
                obtain ⟨m0, m1⟩ := HAt5.out.thaw2 kk
                have HAt6 : Hid (OwnAt wc 2 40 ((W5.setCell ⟨g, kk * 2, none⟩ (.int .i64 p)).setCell ⟨g, kk * 2 + 1, none⟩ (.int .i64 q)) g cap (ys.set kk (p, q))) := Lib.hid (HAt5.out.set wc_len (by decide) kk hik (p, q))
                have HGr6 : Hid (w.grownBy ((W5.setCell ⟨g, kk * 2, none⟩ (.int .i64 p)).setCell ⟨g, kk * 2 + 1, none⟩ (.int .i64 q)) (some g)) := Lib.hid (grown_trans HGr5.out (grown_setCells W5 g (kk * 2) (wc (p, q))))
                go_wp2_with fail
                clear k0 k1 m0 m1 c1' c2'
                go_roundw
                case rel =>
                  refine ⟨kk + 1, j + 1, ys.set kk (p, q), by go_num, by go_num, by omega, by omega, by simpa using HYl.out, ?_, ?_, HAt6.out, HGr6.out⟩
                  · rw [take_set ys kk hik, HYt.out]; exact HCt.out.symm
                  · rw [List.drop_set_of_lt (by omega)]; exact HD1.out
                case measure => simp [intOf]; omega
            · obtain rfl : j + 1 = M := by omega
              have hkc : (kk : Int) ≤ cap := by omega
              have hkn : kk < L := by omega
              have hth : wr.there g (kk * 2) ((L - kk) * 2) := by
                intro t ht
                have h1 := HAt4.out.there (kk + t / 2) (by omega) (t % 2) (Nat.mod_lt _ (by decide))
                rw [show (kk + t / 2) * 2 + t % 2 = kk * 2 + t by omega] at h1
                exact h1
              have hcl := fun ty => run_clear_way wr ty g (kk * 2) (L - kk) (cap - kk) (by omega) hth
              have htk := HAt4.out.take wc_len kk (by rw [HYl.out]; omega)
              have hlt2 : (ys.take kk).length = kk := by rw [List.length_take, HYl.out]; omega
              have htl := htk.tail wc_len (zwy (L - kk))
              rw [hlt2] at htl
              have hgc := grown_trans HGr4.out (grown_setCells wr g (kk * 2) (zwy (L - kk)))
              obtain ⟨w6, hw6⟩ : ∃ w6, wr.setCells g (kk * 2) (zwy (L - kk)) = w6 := ⟨_, rfl⟩
              rw [hw6] at htl hgc
              simp only [hw6] at hcl
              have HTl := Lib.hid htl; have HGc := Lib.hid hgc; have HLt := Lib.hid hlt2
              have hzr := zeroWay
              clear hth htk hlt2 htl hgc hw6 hzr
              go_wp2
              go_ret
              have hx : ys.take kk = compW xs := by
                have h1 := HYt.out
                have h2 := HNs.out.1
                rw [show K + j + 1 = xs.length by rw [HL.out]; omega, List.take_length] at h1
                exact h1
              have hT := HTl.out
              rw [hx] at hT
              refine ⟨?_, hT, HGc.out⟩
              rw [← hx, HLt.out]
              rfl
        · rw [if_neg (fun e => hxy e.symm)] at HCt
          rw [decide_eq_false hxy] at heq
          obtain ⟨p, q⟩ := x
          obtain ⟨p2, q2⟩ := y
          simp only at c1 c2 d1 d2 heq
          clear hxy
          go_upto_region 6 with fail
          go_quiet (fail)
          have HBn := Lib.hid (HB.out.drewN' nq)
          clear c1 c2 d1 d2 heq
          go_wp2
          go_roundw
          case rel => exact ⟨m + 1 + 1, by go_num, by omega, by omega, HBn.out, by rw [HCt.out, HCm.out, List.take_succ_eq_append_getElem hi, HXy.out.1]⟩
          case measure => simp [intOf]; omega
      · obtain rfl : k = L := by omega
        go_wp2
        go_ret
        have he : compW xs = xs := by have := HCm.out; rw [← HL.out, List.take_length] at this; exact this
        rw [he, HL.out]
        exact ⟨rfl, HAt.out.block (HB.out.block g HAt.out.lt), grown_of_below HB.out _⟩

end Go.Proofs.YtalnmbfmfeaohaaGreat.flight
