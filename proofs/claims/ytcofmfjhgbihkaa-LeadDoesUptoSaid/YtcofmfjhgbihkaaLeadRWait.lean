/- Who is missing: Wait of the document. -/
import Derived.Test.YtcofmfjhgbihkaaRows
import Derived.Test.YtcofmfjhgbihkaaLeadWait
namespace Go.Proofs.Ytcofmfjhgbihkaa.crush
open Go.RowKit
open Go.Proofs.Ytcofmfjhgbihkaa.kit Go.Proofs.Ytcofmfjhgbihkaa.own
set_option linter.unusedVariables false
set_option linter.unusedSimpArgs false

/-- The numbers below m that are not there. -/
def absT (th : Int → Bool) : Nat → List Int
  | 0 => []
  | k + 1 => absT th k ++ (if th k then [] else [(k : Int)])
theorem absT_len (th : Int → Bool) : ∀ m, (absT th m).length ≤ m
  | 0 => Nat.le_refl _
  | k + 1 => by
    have := absT_len th k
    rw [absT, List.length_append]
    split <;> simp <;> omega
def LeadV.there (l : LeadV) (k : Int) : Bool := if l.st = 1 then anyL PromV.mon l.ps k else if l.st = 2 then (!l.has || anyL (fun z => z) l.ak k) else true
theorem absT_absL {α : Type} (f : α → Int) (xs : List α) : ∀ m, absT (fun k => anyL f xs k) m = absL f xs m
  | 0 => rfl
  | k + 1 => by rw [absT, absL, absT_absL f xs k]
theorem absT_true {th : Int → Bool} (h : ∀ k, th k = true) : ∀ m, absT th m = []
  | 0 => rfl
  | k + 1 => by rw [absT, absT_true h k, h]; rfl
theorem wait_absT (l : LeadV) (n : Int) : l.wait n = absT l.there (min n 64).toNat := by
  unfold LeadV.wait
  by_cases h1 : l.st = 1
  · rw [if_pos h1, ← absT_absL]
    congr 1; funext k; unfold LeadV.there; rw [if_pos h1]
  · rw [if_neg h1]
    by_cases h2 : l.st = 2
    · cases hh : l.has with
      | true =>
        rw [if_pos ⟨h2, rfl⟩, ← absT_absL]
        congr 1; funext k; unfold LeadV.there; rw [if_neg h1, if_pos h2, hh]; rfl
      | false =>
        rw [if_neg (fun e => by cases e.2), absT_true]
        intro k; unfold LeadV.there; rw [if_neg h1, if_pos h2, hh]; rfl
    · rw [if_neg (fun e => h2 e.1), absT_true]
      intro k; unfold LeadV.there; rw [if_neg h1, if_neg h2]
theorem any_take {α : Type} (f : α → Int) (xs : List α) (k : Int) (j : Nat) (hj : j < xs.length) : anyL f (xs.take (j + 1)) k = (anyL f (xs.take j) k || decide (f xs[j] = k)) := by
  unfold anyL
  rw [List.take_add_one, List.getElem?_eq_getElem hj, List.any_append]
  simp only [Option.toList_some, List.any_cons, List.any_nil, Bool.or_false]

set_option maxHeartbeats 8000000 in
set_option maxRecDepth 100000 in
theorem rWait_any (v : Value) (l : LeadV) (n : Int) (w : World) (h : LdR w v l) (hl : l.Small) : Calls Try.prog 25 #[v, .int .i64 n] w (RowS ic 1 3 w (l.wait n)) := by
  rw [wait_absT]
  obtain ⟨s, t, rfl, hs, ht⟩ := h
  have HX := Lib.hid (fun u (hu : Below (w.heap.size + 1) (w.alloc (.cells #[.int .i64 l.st, .int .i64 l.r, .int .i64 l.m, s, .bool l.has, .string l.val, t] 27)) u) => ((lbox_new w l.st l.r l.m s l.has l.val t).keep (by rw [World.size_alloc]; exact hu)).cells)
  have HB := Lib.hid (below_new w (.cells #[.int .i64 l.st, .int .i64 l.r, .int .i64 l.m, s, .bool l.has, .string l.val, t] 27))
  have HS := Lib.hid (fun u (hu : Below w.heap.size w u) => hs.keep hu)
  have HT := Lib.hid (fun u (hu : Below w.heap.size w u) => ht.keep hu)
  obtain ⟨sa, sc, rfl⟩ := hs.slice
  obtain ⟨ta, tc, rfl⟩ := ht.slice
  have HTh1 : Hid (∀ k : Int, l.st = 1 → l.there k = anyL PromV.mon l.ps k) := Lib.hid (fun k e => by unfold LeadV.there; rw [if_pos e])
  have HTh2 : Hid (∀ k : Int, l.st = 2 → l.there k = (!l.has || anyL (fun z => z) l.ak k)) := Lib.hid (fun k e => by unfold LeadV.there; rw [if_neg (by omega), if_pos e])
  have HTh3 : Hid (∀ k : Int, ¬ l.st = 1 → ¬ l.st = 2 → l.there k = true) := Lib.hid (fun k e1 e2 => by unfold LeadV.there; rw [if_neg e1, if_neg e2])
  generalize l.there = th at HTh1 HTh2 HTh3 ⊢
  obtain ⟨M, hM⟩ : ∃ M, (min n 64).toNat = M := ⟨_, rfl⟩
  have hM64 : M ≤ 64 := by omega
  have HM : Hid (∀ k : Nat, ((k : Int) < min n 64 ↔ k < M)) := Lib.hid (fun k => by omega)
  have HM2 : Hid (∀ k : Nat, k ≤ M → ¬ k < M → k = M) := Lib.hid (fun k h1 h2 => by omega)
  unfold LeadV.agg
  rw [hM]
  obtain ⟨st, r, m, ps, has, val, ak⟩ := l
  obtain ⟨hl1, hl2⟩ := hl
  simp only at HX HB HS HT HTh1 HTh2 HTh3 hl1 hl2 ⊢
  obtain ⟨L1, hL1⟩ : ∃ L, ps.length = L := ⟨_, rfl⟩
  obtain ⟨L2, hL2⟩ : ∃ L, ak.length = L := ⟨_, rfl⟩
  have HL1 := Lib.hid hL1; have HL2 := Lib.hid hL2
  rw [hL1] at HX HB HS hl1 ⊢
  rw [hL2] at HX HB HT hl2 ⊢
  clear hs ht hM hL1 hL2
  have hz := (show (w.alloc (.cells #[.int .i64 st, .int .i64 r, .int .i64 m, .slice sa L1 sc, .bool has, .string val, .slice ta L2 tc] 27)).heap.size = w.heap.size + 1 from World.size_alloc _ _)
  have HZ := Lib.hid hz
  clear hz
  go_enter Try.func25, Try.ntmps25
  go_upto_region 2 with fail
  generalize w.alloc (.cells #[.int .i64 st, .int .i64 r, .int .i64 m, .slice sa L1 sc, .bool has, .string val, .slice ta L2 tc] 27) = W at HX HB HZ ⊢
  go_upto_region 3 with fail
  go_loopw [5, 6, 7, 8, 9] (fun v5 v6 v7 v8 v9 wr => ∃ k : Nat, k ≤ M ∧ v6 = .int .i64 k ∧ Own ic 1 3 wr (w.heap.size + 1) v5 (absT th k) ∧ Below (w.heap.size + 1) W wr) (fun _ i _ _ _ _ => M - (intOf i).toNat)
  case atStart => exact ⟨0, by omega, rfl, Own.nil _ _ _, Below.refl _ _⟩
  case round =>
    obtain ⟨k, hk, rfl, ho, hbw⟩ := hrel
    have HBw := Lib.hid hbw
    obtain ⟨p, q, rfl⟩ := ho.slice
    have HO := Lib.hid ho
    have HBB := Lib.hid (HB.out.trans (hbw.mono (show w.heap.size ≤ w.heap.size + 1 by omega)))
    obtain ⟨l0, l1, l2, l3, l4, l5, l6⟩ := HX.out _ hbw
    clear hbw ho
    by_cases hlt : k < M
    · have hlt' : (k : Int) < min n 64 := (HM.out k).2 hlt
      have hk0 : (0 : Int) ≤ k := by omega
      have hLe := absT_len th k
      have hNx : absT th (k + 1) = absT th k ++ (if th k then [] else [(k : Int)]) := rfl
      generalize absT th k = ys at HO hNx hLe
      have HNx := Lib.hid hNx
      have HLe := Lib.hid hLe
      clear hNx hLe
      by_cases h1 : st = 1
      · have HC : Hid (th k = anyL PromV.mon ps k) := Lib.hid (HTh1.out k h1)
        subst h1
        go_upto_region 7 with fail
        go_loopw [7, 8] (fun v7 v8 wq => ∃ j : Nat, j ≤ L1 ∧ v8 = .int .i64 j ∧ v7 = .bool (anyL PromV.mon (ps.take j) k) ∧ wq = wr) (fun _ i _ => L1 - (intOf i).toNat)
        case atStart => exact ⟨0, by omega, rfl, by cases has <;> rfl, rfl⟩
        case round =>
          obtain ⟨j, hj, rfl, rfl, rfl⟩ := hrel
          have hj0 : (0 : Int) ≤ j := by omega
          by_cases hjl : j < L1
          · have hjl' : (j : Int) < L1 := by omega
            have hi : j < ps.length := by rw [HL1.out]; exact hjl
            obtain ⟨b1, o1, z1, hl3, hr1⟩ := sl_elem (HS.out _ HBB.out) j hi
            have d0 : _ = some (Value.int .i64 ps[j].mon) := hr1 0 _ rfl
            simp only [Nat.add_zero] at d0
            subst z1
            have HA := Lib.hid (any_take PromV.mon ps k j hi)
            generalize ps[j].mon = y at d0 HA
            have HB2 := Lib.hid (HX.out _ HBw.out)
            clear l0 l1 l2 l3 l4 l5 l6
            obtain ⟨l0, l1, l2, l3, l4, l5, l6⟩ := HB2.out
            generalize anyL PromV.mon (ps.take j) k = b at HA ⊢
            clear hl3 hr1
            obtain ⟨b0, hb0⟩ : ∃ b0, b = b0 := ⟨_, rfl⟩
            rw [hb0]
            have HB0 := Lib.hid hb0
            clear hb0
            cases b0 with
            | true =>
              go_wp2
              clear d0 l0 l1 l2 l3 l4 l5 l6
              go_roundw
              case rel => exact ⟨j + 1, by omega, by go_num, by rw [HA.out]; rw [HB0.out]; rfl, trivial⟩
              case measure => simp [intOf]; omega
            | false =>
              go_wp2
              clear d0 l0 l1 l2 l3 l4 l5 l6
              go_roundw
              case rel => exact ⟨j + 1, by omega, by go_num, by rw [HA.out]; rw [HB0.out]; rfl, trivial⟩
              case measure => simp [intOf]; omega
          · obtain rfl : j = L1 := by omega
            have HQ9 : Hid (th k = anyL PromV.mon (ps.take j) k) := Lib.hid (by rw [HC.out, ← HL1.out, List.take_length])
            generalize anyL PromV.mon (ps.take j) k = q9 at HQ9 ⊢
            go_upto_region 11 with fail
            by_cases hzL2 : 0 < L2
            · have hz' : (0 : Int) < L2 := by omega
              go_loopw [7, 9] (fun v7 v9 wp => v7 = .bool (q9) ∧ v9 = .int .i64 0 ∧ wp = wr) (fun _ _ _ => 0)
              case atStart => first | exact ⟨rfl, rfl, rfl⟩ | exact ⟨by rw [HN1.out], rfl, rfl⟩
              case round =>
                obtain ⟨rfl, rfl, rfl⟩ := hrel
                go_upto_region 14 with fail
                cases q9 with
                | true =>
                  go_wp2
                  go_roundw
                  case rel => exact ⟨k + 1, by omega, by go_num, by rw [HNx.out, HQ9.out, if_pos rfl, List.append_nil]; exact HO.out, HBw.out⟩
                  case measure => simp [intOf]; omega
                | false =>
                  go_upto_region 15 with fail
                  have hbo := below_new wr (.cells #[.int .i64 k] 3)
                  have HSo := Lib.hid (sl_oneL (enc := ic) ic_len (x := (k : Int)) (alloc_at wr (.cells #[.int .i64 k] 3)))
                  have HO1 := Lib.hid (HO.out.below hbo)
                  have HB1 := Lib.hid (HBw.out.trans (hbo.mono (show w.heap.size + 1 ≤ _ by have := HBw.out.size; have := HZ.out; omega)))
                  have HkM : Hid (ys.length ≤ 1000000) := Lib.hid (by have := HLe.out; omega)
                  have HSz : Hid (w.heap.size + 1 ≤ (wr.alloc (.cells #[.int .i64 k] 3)).heap.size) := Lib.hid (by have := HB1.out.size; have := HZ.out; omega)
                  clear hbo l0 l1 l2 l3 l4 l5 l6
                  go_wp2_with (at_builtin; refine appSl ic_len ic_one (by decide) rfl _ _ 25 rfl (w.heap.size + 1) 3 _ (by rfl) 8 Try.underlying25 infoInt _ ys rfl HO1.out _ [(k : Int)] rfl HSo.out (by have := HkM.out; unfold maxLen; simp; omega) (by have := HkM.out; simp; omega) HSz.out ?_; intro v9 w9 ho9 hk9; have HO9 := Lib.hid ho9; have HB8 := Lib.hid (HB1.out.trans hk9.toBelow); clear ho9 hk9)
                  go_roundw
                  case rel => exact ⟨k + 1, by omega, by go_num, by rw [HNx.out, HQ9.out, if_neg (by decide)]; exact HO9.out, HB8.out⟩
                  case measure => simp [intOf]; omega
            · have hz' : ¬ (0 : Int) < L2 := by omega
              go_loopw [7, 9] (fun v7 v9 wp => v7 = .bool (q9) ∧ v9 = .int .i64 0 ∧ wp = wr) (fun _ _ _ => 0)
              case atStart => first | exact ⟨rfl, rfl, rfl⟩ | exact ⟨by rw [HN1.out], rfl, rfl⟩
              case round =>
                obtain ⟨rfl, rfl, rfl⟩ := hrel
                go_upto_region 14 with fail
                cases q9 with
                | true =>
                  go_wp2
                  go_roundw
                  case rel => exact ⟨k + 1, by omega, by go_num, by rw [HNx.out, HQ9.out, if_pos rfl, List.append_nil]; exact HO.out, HBw.out⟩
                  case measure => simp [intOf]; omega
                | false =>
                  go_upto_region 15 with fail
                  have hbo := below_new wr (.cells #[.int .i64 k] 3)
                  have HSo := Lib.hid (sl_oneL (enc := ic) ic_len (x := (k : Int)) (alloc_at wr (.cells #[.int .i64 k] 3)))
                  have HO1 := Lib.hid (HO.out.below hbo)
                  have HB1 := Lib.hid (HBw.out.trans (hbo.mono (show w.heap.size + 1 ≤ _ by have := HBw.out.size; have := HZ.out; omega)))
                  have HkM : Hid (ys.length ≤ 1000000) := Lib.hid (by have := HLe.out; omega)
                  have HSz : Hid (w.heap.size + 1 ≤ (wr.alloc (.cells #[.int .i64 k] 3)).heap.size) := Lib.hid (by have := HB1.out.size; have := HZ.out; omega)
                  clear hbo l0 l1 l2 l3 l4 l5 l6
                  go_wp2_with (at_builtin; refine appSl ic_len ic_one (by decide) rfl _ _ 25 rfl (w.heap.size + 1) 3 _ (by rfl) 8 Try.underlying25 infoInt _ ys rfl HO1.out _ [(k : Int)] rfl HSo.out (by have := HkM.out; unfold maxLen; simp; omega) (by have := HkM.out; simp; omega) HSz.out ?_; intro v9 w9 ho9 hk9; have HO9 := Lib.hid ho9; have HB8 := Lib.hid (HB1.out.trans hk9.toBelow); clear ho9 hk9)
                  go_roundw
                  case rel => exact ⟨k + 1, by omega, by go_num, by rw [HNx.out, HQ9.out, if_neg (by decide)]; exact HO9.out, HB8.out⟩
                  case measure => simp [intOf]; omega
      · by_cases h2 : st = 2
        · have HC : Hid (th k = (!has || anyL (fun z => z) ak k)) := Lib.hid (HTh2.out k h2)
          subst h2
          have HQh := Lib.hid (show (!has || anyL (fun z => z) (ak.take 0) k) = !has by cases has <;> rfl)
          go_upto_region 7 with fail
          by_cases hzL1 : 0 < L1
          · have hz' : (0 : Int) < L1 := by omega
            go_loopw [7, 8] (fun v7 v9 wp => v7 = .bool (!has) ∧ v9 = .int .i64 0 ∧ wp = wr) (fun _ _ _ => 0)
            case atStart => first | exact ⟨rfl, rfl, rfl⟩ | exact ⟨by rw [HN1.out], rfl, rfl⟩
            case round =>
              obtain ⟨rfl, rfl, rfl⟩ := hrel
              go_upto_region 11 with fail
              go_loopw [7, 9] (fun v7 v8 wq => ∃ j : Nat, j ≤ L2 ∧ v8 = .int .i64 j ∧ v7 = .bool ((!has || anyL (fun z => z) (ak.take j) k)) ∧ wq = wr) (fun _ i _ => L2 - (intOf i).toNat)
              case atStart => exact ⟨0, by omega, rfl, by cases has <;> rfl, rfl⟩
              case round =>
                obtain ⟨j, hj, rfl, rfl, rfl⟩ := hrel
                have hj0 : (0 : Int) ≤ j := by omega
                by_cases hjl : j < L2
                · have hjl' : (j : Int) < L2 := by omega
                  have hi : j < ak.length := by rw [HL2.out]; exact hjl
                  obtain ⟨b1, o1, z1, hl3, hr1⟩ := sl_elem (HT.out _ HBB.out) j hi
                  have d0 := icell_at hr1
                  rw [Nat.mul_one] at d0
                  subst z1
                  have HA := Lib.hid (any_take (fun z => z) ak k j hi)
                  generalize ak[j] = y at d0 HA
                  have HB2 := Lib.hid (HX.out _ HBw.out)
                  clear l0 l1 l2 l3 l4 l5 l6
                  obtain ⟨l0, l1, l2, l3, l4, l5, l6⟩ := HB2.out
                  generalize anyL (fun z => z) (ak.take j) k = b at HA ⊢
                  clear hl3 hr1
                  obtain ⟨b0, hb0⟩ : ∃ b0, (!has || b) = b0 := ⟨_, rfl⟩
                  rw [hb0]
                  have HB0 := Lib.hid hb0
                  clear hb0
                  cases b0 with
                  | true =>
                    go_wp2
                    clear d0 l0 l1 l2 l3 l4 l5 l6
                    go_roundw
                    case rel => exact ⟨j + 1, by omega, by go_num, by rw [HA.out]; have := HB0.out; revert this; cases has <;> cases b <;> simp <;> rfl, trivial⟩
                    case measure => simp [intOf]; omega
                  | false =>
                    go_wp2
                    clear d0 l0 l1 l2 l3 l4 l5 l6
                    go_roundw
                    case rel => exact ⟨j + 1, by omega, by go_num, by rw [HA.out]; have := HB0.out; revert this; cases has <;> cases b <;> simp <;> rfl, trivial⟩
                    case measure => simp [intOf]; omega
                · obtain rfl : j = L2 := by omega
                  have HQ9 : Hid (th k = (!has || anyL (fun z => z) (ak.take j) k)) := Lib.hid (by rw [HC.out, ← HL2.out, List.take_length])
                  generalize (!has || anyL (fun z => z) (ak.take j) k) = q9 at HQ9 ⊢
                  go_upto_region 14 with fail
                  cases q9 with
                  | true =>
                    go_wp2
                    go_roundw
                    case rel => exact ⟨k + 1, by omega, by go_num, by rw [HNx.out, HQ9.out, if_pos rfl, List.append_nil]; exact HO.out, HBw.out⟩
                    case measure => simp [intOf]; omega
                  | false =>
                    go_upto_region 15 with fail
                    have hbo := below_new wr (.cells #[.int .i64 k] 3)
                    have HSo := Lib.hid (sl_oneL (enc := ic) ic_len (x := (k : Int)) (alloc_at wr (.cells #[.int .i64 k] 3)))
                    have HO1 := Lib.hid (HO.out.below hbo)
                    have HB1 := Lib.hid (HBw.out.trans (hbo.mono (show w.heap.size + 1 ≤ _ by have := HBw.out.size; have := HZ.out; omega)))
                    have HkM : Hid (ys.length ≤ 1000000) := Lib.hid (by have := HLe.out; omega)
                    have HSz : Hid (w.heap.size + 1 ≤ (wr.alloc (.cells #[.int .i64 k] 3)).heap.size) := Lib.hid (by have := HB1.out.size; have := HZ.out; omega)
                    clear hbo l0 l1 l2 l3 l4 l5 l6
                    go_wp2_with (at_builtin; refine appSl ic_len ic_one (by decide) rfl _ _ 25 rfl (w.heap.size + 1) 3 _ (by rfl) 8 Try.underlying25 infoInt _ ys rfl HO1.out _ [(k : Int)] rfl HSo.out (by have := HkM.out; unfold maxLen; simp; omega) (by have := HkM.out; simp; omega) HSz.out ?_; intro v9 w9 ho9 hk9; have HO9 := Lib.hid ho9; have HB8 := Lib.hid (HB1.out.trans hk9.toBelow); clear ho9 hk9)
                    go_roundw
                    case rel => exact ⟨k + 1, by omega, by go_num, by rw [HNx.out, HQ9.out, if_neg (by decide)]; exact HO9.out, HB8.out⟩
                    case measure => simp [intOf]; omega
          · have hz' : ¬ (0 : Int) < L1 := by omega
            go_loopw [7, 8] (fun v7 v9 wp => v7 = .bool (!has) ∧ v9 = .int .i64 0 ∧ wp = wr) (fun _ _ _ => 0)
            case atStart => first | exact ⟨rfl, rfl, rfl⟩ | exact ⟨by rw [HN1.out], rfl, rfl⟩
            case round =>
              obtain ⟨rfl, rfl, rfl⟩ := hrel
              go_upto_region 11 with fail
              go_loopw [7, 9] (fun v7 v8 wq => ∃ j : Nat, j ≤ L2 ∧ v8 = .int .i64 j ∧ v7 = .bool ((!has || anyL (fun z => z) (ak.take j) k)) ∧ wq = wr) (fun _ i _ => L2 - (intOf i).toNat)
              case atStart => exact ⟨0, by omega, rfl, by cases has <;> rfl, rfl⟩
              case round =>
                obtain ⟨j, hj, rfl, rfl, rfl⟩ := hrel
                have hj0 : (0 : Int) ≤ j := by omega
                by_cases hjl : j < L2
                · have hjl' : (j : Int) < L2 := by omega
                  have hi : j < ak.length := by rw [HL2.out]; exact hjl
                  obtain ⟨b1, o1, z1, hl3, hr1⟩ := sl_elem (HT.out _ HBB.out) j hi
                  have d0 := icell_at hr1
                  rw [Nat.mul_one] at d0
                  subst z1
                  have HA := Lib.hid (any_take (fun z => z) ak k j hi)
                  generalize ak[j] = y at d0 HA
                  have HB2 := Lib.hid (HX.out _ HBw.out)
                  clear l0 l1 l2 l3 l4 l5 l6
                  obtain ⟨l0, l1, l2, l3, l4, l5, l6⟩ := HB2.out
                  generalize anyL (fun z => z) (ak.take j) k = b at HA ⊢
                  clear hl3 hr1
                  obtain ⟨b0, hb0⟩ : ∃ b0, (!has || b) = b0 := ⟨_, rfl⟩
                  rw [hb0]
                  have HB0 := Lib.hid hb0
                  clear hb0
                  cases b0 with
                  | true =>
                    go_wp2
                    clear d0 l0 l1 l2 l3 l4 l5 l6
                    go_roundw
                    case rel => exact ⟨j + 1, by omega, by go_num, by rw [HA.out]; have := HB0.out; revert this; cases has <;> cases b <;> simp <;> rfl, trivial⟩
                    case measure => simp [intOf]; omega
                  | false =>
                    go_wp2
                    clear d0 l0 l1 l2 l3 l4 l5 l6
                    go_roundw
                    case rel => exact ⟨j + 1, by omega, by go_num, by rw [HA.out]; have := HB0.out; revert this; cases has <;> cases b <;> simp <;> rfl, trivial⟩
                    case measure => simp [intOf]; omega
                · obtain rfl : j = L2 := by omega
                  have HQ9 : Hid (th k = (!has || anyL (fun z => z) (ak.take j) k)) := Lib.hid (by rw [HC.out, ← HL2.out, List.take_length])
                  generalize (!has || anyL (fun z => z) (ak.take j) k) = q9 at HQ9 ⊢
                  go_upto_region 14 with fail
                  cases q9 with
                  | true =>
                    go_wp2
                    go_roundw
                    case rel => exact ⟨k + 1, by omega, by go_num, by rw [HNx.out, HQ9.out, if_pos rfl, List.append_nil]; exact HO.out, HBw.out⟩
                    case measure => simp [intOf]; omega
                  | false =>
                    go_upto_region 15 with fail
                    have hbo := below_new wr (.cells #[.int .i64 k] 3)
                    have HSo := Lib.hid (sl_oneL (enc := ic) ic_len (x := (k : Int)) (alloc_at wr (.cells #[.int .i64 k] 3)))
                    have HO1 := Lib.hid (HO.out.below hbo)
                    have HB1 := Lib.hid (HBw.out.trans (hbo.mono (show w.heap.size + 1 ≤ _ by have := HBw.out.size; have := HZ.out; omega)))
                    have HkM : Hid (ys.length ≤ 1000000) := Lib.hid (by have := HLe.out; omega)
                    have HSz : Hid (w.heap.size + 1 ≤ (wr.alloc (.cells #[.int .i64 k] 3)).heap.size) := Lib.hid (by have := HB1.out.size; have := HZ.out; omega)
                    clear hbo l0 l1 l2 l3 l4 l5 l6
                    go_wp2_with (at_builtin; refine appSl ic_len ic_one (by decide) rfl _ _ 25 rfl (w.heap.size + 1) 3 _ (by rfl) 8 Try.underlying25 infoInt _ ys rfl HO1.out _ [(k : Int)] rfl HSo.out (by have := HkM.out; unfold maxLen; simp; omega) (by have := HkM.out; simp; omega) HSz.out ?_; intro v9 w9 ho9 hk9; have HO9 := Lib.hid ho9; have HB8 := Lib.hid (HB1.out.trans hk9.toBelow); clear ho9 hk9)
                    go_roundw
                    case rel => exact ⟨k + 1, by omega, by go_num, by rw [HNx.out, HQ9.out, if_neg (by decide)]; exact HO9.out, HB8.out⟩
                    case measure => simp [intOf]; omega
        · have HQ9 : Hid (th k = true) := Lib.hid (HTh3.out k h1 h2)
          have HN1 : Hid ((st != 1) = true) := Lib.hid (by simp [h1])
          go_upto_region 7 with fail
          by_cases hzL1 : 0 < L1
          · have hz' : (0 : Int) < L1 := by omega
            go_loopw [7, 8] (fun v7 v9 wp => v7 = .bool (true) ∧ v9 = .int .i64 0 ∧ wp = wr) (fun _ _ _ => 0)
            case atStart => first | exact ⟨rfl, rfl, rfl⟩ | exact ⟨by rw [HN1.out], rfl, rfl⟩
            case round =>
              obtain ⟨rfl, rfl, rfl⟩ := hrel
              go_upto_region 11 with fail
              by_cases hzL2 : 0 < L2
              · have hz' : (0 : Int) < L2 := by omega
                go_loopw [7, 9] (fun v7 v9 wp => v7 = .bool (true) ∧ v9 = .int .i64 0 ∧ wp = wr) (fun _ _ _ => 0)
                case atStart => first | exact ⟨rfl, rfl, rfl⟩ | exact ⟨by rw [HN1.out], rfl, rfl⟩
                case round =>
                  obtain ⟨rfl, rfl, rfl⟩ := hrel
                  go_upto_region 14 with fail
                  go_wp2
                  go_roundw
                  case rel => exact ⟨k + 1, by omega, by go_num, by rw [HNx.out, HQ9.out, if_pos rfl, List.append_nil]; exact HO.out, HBw.out⟩
                  case measure => simp [intOf]; omega
              · have hz' : ¬ (0 : Int) < L2 := by omega
                go_loopw [7, 9] (fun v7 v9 wp => v7 = .bool (true) ∧ v9 = .int .i64 0 ∧ wp = wr) (fun _ _ _ => 0)
                case atStart => first | exact ⟨rfl, rfl, rfl⟩ | exact ⟨by rw [HN1.out], rfl, rfl⟩
                case round =>
                  obtain ⟨rfl, rfl, rfl⟩ := hrel
                  go_upto_region 14 with fail
                  go_wp2
                  go_roundw
                  case rel => exact ⟨k + 1, by omega, by go_num, by rw [HNx.out, HQ9.out, if_pos rfl, List.append_nil]; exact HO.out, HBw.out⟩
                  case measure => simp [intOf]; omega
          · have hz' : ¬ (0 : Int) < L1 := by omega
            go_loopw [7, 8] (fun v7 v9 wp => v7 = .bool (true) ∧ v9 = .int .i64 0 ∧ wp = wr) (fun _ _ _ => 0)
            case atStart => first | exact ⟨rfl, rfl, rfl⟩ | exact ⟨by rw [HN1.out], rfl, rfl⟩
            case round =>
              obtain ⟨rfl, rfl, rfl⟩ := hrel
              go_upto_region 11 with fail
              by_cases hzL2 : 0 < L2
              · have hz' : (0 : Int) < L2 := by omega
                go_loopw [7, 9] (fun v7 v9 wp => v7 = .bool (true) ∧ v9 = .int .i64 0 ∧ wp = wr) (fun _ _ _ => 0)
                case atStart => first | exact ⟨rfl, rfl, rfl⟩ | exact ⟨by rw [HN1.out], rfl, rfl⟩
                case round =>
                  obtain ⟨rfl, rfl, rfl⟩ := hrel
                  go_upto_region 14 with fail
                  go_wp2
                  go_roundw
                  case rel => exact ⟨k + 1, by omega, by go_num, by rw [HNx.out, HQ9.out, if_pos rfl, List.append_nil]; exact HO.out, HBw.out⟩
                  case measure => simp [intOf]; omega
              · have hz' : ¬ (0 : Int) < L2 := by omega
                go_loopw [7, 9] (fun v7 v9 wp => v7 = .bool (true) ∧ v9 = .int .i64 0 ∧ wp = wr) (fun _ _ _ => 0)
                case atStart => first | exact ⟨rfl, rfl, rfl⟩ | exact ⟨by rw [HN1.out], rfl, rfl⟩
                case round =>
                  obtain ⟨rfl, rfl, rfl⟩ := hrel
                  go_upto_region 14 with fail
                  go_wp2
                  go_roundw
                  case rel => exact ⟨k + 1, by omega, by go_num, by rw [HNx.out, HQ9.out, if_pos rfl, List.append_nil]; exact HO.out, HBw.out⟩
                  case measure => simp [intOf]; omega
    · obtain rfl : k = M := HM2.out k hk hlt
      have hlt' : ¬ (k : Int) < min n 64 := fun h => hlt ((HM.out k).1 h)
      go_wp2
      go_ret
      exact ⟨_, rfl, HO.out.mono (by omega), HBB.out⟩
end Go.Proofs.Ytcofmfjhgbihkaa.crush
