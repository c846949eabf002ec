/- The document's Rises. -/
import Derived.Test.YtcofmfjhgbihkaaRows
import Derived.Test.YtcofmfjhgbihkaaLeadEq
namespace Go.Proofs.Ytcofmfjhgbihkaa.crush
open Go.RowKit
open Go.Proofs.Ytcofmfjhgbihkaa.kit Go.Proofs.Ytcofmfjhgbihkaa.own
set_option linter.unusedVariables false
set_option linter.unusedSimpArgs false

def Adj {α : Type} (f : α → Int) (xs : List α) (k : Nat) : Prop := ∀ j (h : j + 1 < xs.length), j < k → f xs[j] < f xs[j + 1]
theorem ris_adj {α : Type} {f : α → Int} {xs : List α} {k : Nat} (h : Adj f xs k) (hk : xs.length ≤ k + 1) : Ris f xs := by
  intro i j hi hj hij
  obtain ⟨d, rfl⟩ : ∃ d, j = i + 1 + d := ⟨j - i - 1, by omega⟩
  induction d with
  | zero => exact h i (by omega) (by omega)
  | succ d ih =>
    have h1 := ih (by omega) (by omega)
    have h2 := h (i + 1 + d) (by omega) (by omega)
    exact Int.lt_trans h1 h2
def RisS (w : World) (l : LeadV) (e : Ending) (w' : World) : Prop := ∃ q, e = .returned (.bool q) ∧ (q = true → Ris PromV.mon l.ps ∧ Ris (fun z => z) l.ak) ∧ Below w.heap.size w w'

set_option maxHeartbeats 16000000 in
set_option maxRecDepth 100000 in
theorem rRises_any (v : Value) (l : LeadV) (w : World) (h : LdR w v l) (hl : l.Small) : Calls Try.prog 12 #[v] w (RisS w l) := by
  obtain ⟨s, t, rfl, hs, ht⟩ := h
  obtain ⟨hl1, hl2⟩ := hl
  have HSp := Lib.hid (fun u (hu : Below w.heap.size w u) => hs.keep hu)
  have HSa := Lib.hid (fun u (hu : Below w.heap.size w u) => ht.keep hu)
  obtain ⟨sa, sc, rfl⟩ := hs.slice
  obtain ⟨ta, tc, rfl⟩ := ht.slice
  have HX := Lib.hid (lbox_new w l.st l.r l.m (.slice sa l.ps.length sc) l.has l.val (.slice ta l.ak.length tc))
  have HB := Lib.hid (below_new w (.cells #[.int .i64 l.st, .int .i64 l.r, .int .i64 l.m, .slice sa l.ps.length sc, .bool l.has, .string l.val, .slice ta l.ak.length tc] 27))
  obtain ⟨K, hK⟩ : ∃ k, l.ps.length = k := ⟨_, rfl⟩
  obtain ⟨M, hM⟩ : ∃ k, l.ak.length = k := ⟨_, rfl⟩
  have HK := Lib.hid hK; have HM := Lib.hid hM
  unfold LeadV.agg
  rw [hK] at hl1 HSp HX HB ⊢
  rw [hM] at hl2 HSa HX HB ⊢
  clear hs ht hK hM
  have mixed : Try.prog.follows .mixedOrders = true := by kernel_rfl
  go_enter Try.func12, Try.ntmps12
  go_upto_region 1 with fail
  generalize w.alloc _ = W at HB HX ⊢
  have HBw := Lib.hid (fun u (hu : Below W.heap.size W u) => HB.out.trans (hu.mono HB.out.size))
  go_wp2
  go_loopw [3] (fun vi wr => ∃ k : Nat, k ≤ K ∧ vi = .int .i64 ((k : Int) + 1) ∧ Hid (Adj PromV.mon l.ps k) ∧ Below W.heap.size W wr) (fun i _ => K + 1 - (intOf i).toNat)
  case atStart => exact ⟨0, by omega, rfl, Lib.hid (fun j _ h => absurd h (Nat.not_lt_zero _)), Below.refl _ _⟩
  case round =>
    obtain ⟨k, hk, rfl, HA1, hbw⟩ := hrel
    have HBr := Lib.hid hbw
    obtain ⟨c0, c1, c2, c3, c4, c5, c6⟩ := (HX.out.keep hbw).cells
    by_cases hlt : k + 1 < K
    · have hlt' : (k : Int) + 1 < K := by omega
      have hk0 : (0 : Int) ≤ k := by omega
      have hk1 : (0 : Int) ≤ (k : Int) + 1 := by omega
      have hk2 : (k : Int) < K := by omega
      have h1 : k < l.ps.length := by rw [HK.out]; omega
      have h2 : k + 1 < l.ps.length := by rw [HK.out]; omega
      obtain ⟨b1, o1, z1, hl3, hr1⟩ := sl_elem (HSp.out _ (HBw.out _ hbw)) k h1
      obtain ⟨b2, o2, z2, hl4, hr2⟩ := sl_elem (HSp.out _ (HBw.out _ hbw)) (k + 1) h2
      cases z1; cases z2
      have e1 := hr1 0 _ rfl
      have e2 := hr2 0 _ rfl
      simp only [Nat.add_zero, Nat.mul_one] at e1 e2
      clear hbw hl3 hl4 hr1 hr2
      have HAn : Hid (PromV.mon l.ps[k] < PromV.mon l.ps[k + 1] → Adj PromV.mon l.ps (k + 1)) := Lib.hid (fun h j hj hjk => by
        rcases Nat.lt_or_ge j k with h3 | h3
        · exact HA1.out j hj h3
        · obtain rfl : j = k := by omega
          exact h)
      generalize l.ps[k] = x at e1 HAn
      generalize l.ps[k + 1] = y at e2 HAn
      obtain ⟨x, xn, xh, xr, xa, xt⟩ := x
      obtain ⟨y, yn, yh, yr, ya, yt⟩ := y
      simp only at e1 e2 HAn
      have hw1 : IntKind.i64.wrap (k : Int) = (k : Int) := by rw [IntKind.wrap_i64]; omega
      have htn : ((k : Int) + 1).toNat = k + 1 := by omega
      by_cases hxy : y ≤ x
      · go_upto_region 4 with fail
        go_quiet (fail)
        have HB2 := Lib.hid (HBr.out.drewN' nq)
        clear e1 e2 c0 c1 c2 c3 c4 c5 c6 hw1 htn
        go_wp2
        go_ret
        exact ⟨false, rfl, (fun h => by cases h), HBw.out _ HB2.out⟩
      · have HA9 := Lib.hid (HAn.out (by omega))
        go_upto_region 4 with fail
        go_quiet (fail)
        have HB2 := Lib.hid (HBr.out.drewN' nq)
        clear e1 e2 c0 c1 c2 c3 c4 c5 c6 hw1 htn
        go_wp2
        go_roundw
        case rel => exact ⟨k + 1, by omega, by go_num, HA9, HB2.out⟩
        case measure => simp [intOf]; omega
    · have hlt' : ¬ ((k : Int) + 1 < K) := by omega
      have HR1 := Lib.hid (ris_adj HA1.out (by rw [HK.out]; omega))
      have HBq := Lib.hid hbw
      clear hbw HBr
      go_wp2
      clear c0 c1 c2 c3 c4 c5 c6
      go_loopw [4] (fun vi wr => ∃ k : Nat, k ≤ M ∧ vi = .int .i64 ((k : Int) + 1) ∧ Hid (Adj (fun z => z) l.ak k) ∧ Below W.heap.size W wr) (fun i _ => M + 1 - (intOf i).toNat)
      case atStart => exact ⟨0, by omega, rfl, Lib.hid (fun j _ h => absurd h (Nat.not_lt_zero _)), HBq.out⟩
      case round =>
        obtain ⟨k, hk, rfl, HA2, hbw⟩ := hrel
        have HBr := Lib.hid hbw
        obtain ⟨c0, c1, c2, c3, c4, c5, c6⟩ := (HX.out.keep hbw).cells
        by_cases hlt : k + 1 < M
        · have hlt' : (k : Int) + 1 < M := by omega
          have hk0 : (0 : Int) ≤ k := by omega
          have hk1 : (0 : Int) ≤ (k : Int) + 1 := by omega
          have hk2 : (k : Int) < M := by omega
          have h1 : k < l.ak.length := by rw [HM.out]; omega
          have h2 : k + 1 < l.ak.length := by rw [HM.out]; omega
          obtain ⟨b1, o1, z1, hl3, hr1⟩ := sl_elem (HSa.out _ (HBw.out _ hbw)) k h1
          obtain ⟨b2, o2, z2, hl4, hr2⟩ := sl_elem (HSa.out _ (HBw.out _ hbw)) (k + 1) h2
          cases z1; cases z2
          have e1 := hr1 0 _ rfl
          have e2 := hr2 0 _ rfl
          simp only [Nat.add_zero, Nat.mul_one] at e1 e2
          clear hbw hl3 hl4 hr1 hr2
          have HAn : Hid ((fun z => z) l.ak[k] < (fun z => z) l.ak[k + 1] → Adj (fun z => z) l.ak (k + 1)) := Lib.hid (fun h j hj hjk => by
            rcases Nat.lt_or_ge j k with h3 | h3
            · exact HA2.out j hj h3
            · obtain rfl : j = k := by omega
              exact h)
          generalize l.ak[k] = x at e1 HAn
          generalize l.ak[k + 1] = y at e2 HAn
          simp only at e1 e2 HAn
          have hw1 : IntKind.i64.wrap (k : Int) = (k : Int) := by rw [IntKind.wrap_i64]; omega
          have htn : ((k : Int) + 1).toNat = k + 1 := by omega
          by_cases hxy : y ≤ x
          · go_upto_region 9 with fail
            go_quiet (fail)
            have HB2 := Lib.hid (HBr.out.drewN' nq)
            clear e1 e2 c0 c1 c2 c3 c4 c5 c6 hw1 htn
            go_wp2
            go_ret
            exact ⟨false, rfl, (fun h => by cases h), HBw.out _ HB2.out⟩
          · have HA9 := Lib.hid (HAn.out (by omega))
            go_upto_region 9 with fail
            go_quiet (fail)
            have HB2 := Lib.hid (HBr.out.drewN' nq)
            clear e1 e2 c0 c1 c2 c3 c4 c5 c6 hw1 htn
            go_wp2
            go_roundw
            case rel => exact ⟨k + 1, by omega, by go_num, HA9, HB2.out⟩
            case measure => simp [intOf]; omega
        · have hlt' : ¬ ((k : Int) + 1 < M) := by omega
          have HR2 := Lib.hid (ris_adj HA2.out (by rw [HM.out]; omega))
          have HBq := Lib.hid hbw
          go_wp2
          go_ret
          exact ⟨true, rfl, fun _ => ⟨HR1.out, HR2.out⟩, HBw.out _ hbw⟩
end Go.Proofs.Ytcofmfjhgbihkaa.crush
