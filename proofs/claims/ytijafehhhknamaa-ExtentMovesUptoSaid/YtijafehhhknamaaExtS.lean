/- The document's packed, Give and Claim. -/
import Derived.Test.YtijafehhhknamaaRows
import Derived.Test.YtijafehhhknamaaExtR
import Derived.Test.YtijafehhhknamaaExtH
namespace Go.Proofs.Ytijafehhhknamaa.ext
open Go.RowKit Go.Sort
open Go.Proofs.Ytijafehhhknamaa.kit Go.Proofs.Ytijafehhhknamaa.own
set_option linter.unusedVariables false

/-- The sectors below n that are marked, one by one. -/
def onesN (ms : List Int) (n : Nat) : List Wy := (List.range n).flatMap fun k => if ms.getD k 0 = 0 then [] else [((k : Int), 1)]
theorem onesN_succ (ms : List Int) (n : Nat) : onesN ms (n + 1) = onesN ms n ++ (if ms.getD n 0 = 0 then [] else [((n : Int), 1)]) := by
  unfold onesN
  rw [List.range_succ, List.flatMap_append]
  simp
theorem onesN_mem (ms : List Int) (n : Nat) (x : Wy) : x ∈ onesN ms n ↔ ∃ k, k < n ∧ ms.getD k 0 ≠ 0 ∧ x = ((k : Int), 1) := by
  unfold onesN
  rw [List.mem_flatMap]
  constructor
  · rintro ⟨k, hk, h⟩
    split at h
    · cases h
    · rename_i hne
      exact ⟨k, List.mem_range.1 hk, hne, List.mem_singleton.1 h⟩
  · rintro ⟨k, hk, hne, rfl⟩
    exact ⟨k, List.mem_range.2 hk, by rw [if_neg hne]; exact List.mem_singleton.2 rfl⟩
theorem onesN_pos (ms : List Int) (n : Nat) : Pos (onesN ms n) := by
  intro x hx
  obtain ⟨k, _, _, rfl⟩ := (onesN_mem ms n x).1 hx
  exact Int.le_refl _
theorem onesN_flat (ms : List Int) : ∀ n, Flat (onesN ms n)
  | 0 => List.Pairwise.nil
  | n + 1 => by
    rw [onesN_succ]
    split
    · rw [List.append_nil]; exact onesN_flat ms n
    · refine List.pairwise_append.2 ⟨onesN_flat ms n, List.pairwise_singleton _ _, ?_⟩
      intro x hx y hy
      obtain ⟨k, hk, _, rfl⟩ := (onesN_mem ms n x).1 hx
      rw [List.mem_singleton.1 hy]
      simp only
      omega
theorem onesN_cov (ms : List Int) (n : Nat) (k : Int) : cov (onesN ms n) k ↔ ∃ j : Nat, k = j ∧ j < n ∧ ms.getD j 0 ≠ 0 := by
  constructor
  · rintro ⟨x, hx, h1, h2⟩
    obtain ⟨j, hj, hne, rfl⟩ := (onesN_mem ms n x).1 hx
    simp only at h1 h2
    exact ⟨j, by omega, hj, hne⟩
  · rintro ⟨j, rfl, hj, hne⟩
    exact ⟨((j : Int), 1), (onesN_mem ms n _).2 ⟨j, hj, hne, rfl⟩, Int.le_refl _, by simp only; omega⟩
theorem onesN_len (ms : List Int) : ∀ n, (onesN ms n).length ≤ n
  | 0 => Nat.le_refl _
  | n + 1 => by
    rw [onesN_succ, List.length_append]
    have := onesN_len ms n
    split
    · simp; omega
    · simp; omega

set_option maxHeartbeats 8000000 in
set_option maxRecDepth 100000 in
theorem packed_any (v : Value) (ms : List Int) (w : World) (h : Sl ic 1 w v ms) (hn : ms.length ≤ 65536) :
    Calls Try.prog 37 #[v] w (RowS w (joinE (onesN ms ms.length))) := by
  obtain ⟨hl, a, cap, rfl, -, -⟩ := id h
  have HS := Lib.hid h
  obtain ⟨L, hL⟩ : ∃ L, ms.length = L := ⟨_, rfl⟩
  have HL := Lib.hid hL
  rw [hL] at hl HS hn ⊢
  clear h hL
  have mixed : Try.prog.follows .mixedOrders = true := by kernel_rfl
  go_enter Try.func37, Try.ntmps37
  go_wp2
  go_loopw [3, 4] (fun vf i wr => ∃ (k : Nat), k ≤ L ∧ i = .int .i64 k ∧ Own wc 2 48 wr w.heap.size vf (joinE (onesN ms k)) ∧ Below w.heap.size w wr) (fun _ i _ => L - (intOf i).toNat)
  case atStart => exact ⟨0, by omega, rfl, Own.nil _ _ _, Below.refl _ _⟩
  case round =>
    obtain ⟨k, hk, rfl, ho, hb⟩ := hrel
    have HB := Lib.hid hb
    by_cases hlt : k < L
    · have hlt' : (k : Int) < L := by omega
      have hi : k < ms.length := by rw [HL.out]; exact hlt
      have hs2 : Sl ic 1 wr (.slice a L cap) ms := HS.out.keep HB.out
      obtain ⟨_, a', cap', he, -, hcell⟩ := hs2
      have he' : a = a' ∧ cap = cap' := by cases he; exact ⟨rfl, rfl⟩
      obtain ⟨rfl, rfl⟩ := he'
      clear he
      obtain ⟨b, off, rfl, hbl, hcell⟩ := hcell (by omega)
      have c1 := icell_at (hcell k hi)
      rw [Nat.mul_one] at c1
      clear hcell
      have hgd : ms.getD k 0 = ms[k] := by simp [List.getD, hi]
      have hsu := onesN_succ ms k
      rw [hgd] at hsu
      obtain ⟨c, hc⟩ : ∃ c, ms[k] = c := ⟨_, rfl⟩
      rw [hc] at c1 hsu
      clear hgd hc
      by_cases hc0 : c = 0
      · subst hc0
        rw [if_pos rfl, List.append_nil] at hsu
        have HJ := Lib.hid hsu
        have HO := Lib.hid ho
        obtain ⟨xa, xc, rfl⟩ := ho.slice
        clear ho hb hsu
        go_wp2
        go_roundw
        case rel => exact ⟨k + 1, by omega, by go_num, by rw [HJ.out]; exact HO.out, HB.out⟩
        case measure => simp [intOf]; omega
      · rw [if_neg hc0] at hsu
        have hj : joinE (onesN ms (k + 1)) = stepJ (joinE (onesN ms k)) ((k : Int), 1) := by rw [hsu, joinE_snoc]
        have hcb : True → (c == 0) = false := fun _ => by simp [hc0]
        have hfl := joinE_fine (onesN ms k) (fun x hx => by
          obtain ⟨j, hj, _, rfl⟩ := (onesN_mem ms k x).1 hx
          exact ⟨by simp only; omega, by simp only; omega, by simp only; omega⟩)
        have hll : (joinE (onesN ms k)).length ≤ k := Nat.le_trans (joinE_len _) (onesN_len ms k)
        obtain ⟨few, hfew⟩ : ∃ few, joinE (onesN ms k) = few := ⟨_, rfl⟩
        rw [hfew] at hj hfl hll ho
        clear hsu hfew
        have HSn := Lib.hid (fun W => sl_new wc_len W (((k : Int), 1) : Wy) 48 _ rfl)
        rcases Nat.eq_zero_or_pos few.length with h0 | h0
        · obtain rfl : few = [] := List.eq_nil_of_length_eq_zero h0
          obtain ⟨xa, xc, rfl⟩ := ho.slice
          have HO := Lib.hid ho
          have HJ := Lib.hid hj
          clear ho hb hj hfl hll h0
          simp only [List.length_nil] at HO ⊢
          go_upto_region 7 with fail
          go_quiet (fail)
          have HB2 := Lib.hid (HB.out.drewN' nq)
          have HO2 := Lib.hid (HO.out.below ((Below.refl wr.heap.size wr).drewN' nq))
          have HB3 := Lib.hid (HB2.out.trans ((below_new (wr.drewN nq) (.cells (wc ((k : Int), 1)).toArray 48)).mono HB2.out.size))
          have HO3 := Lib.hid (HO2.out.below (below_new (wr.drewN nq) (.cells (wc ((k : Int), 1)).toArray 48)))
          clear c1
          go_wp2_with (at_builtin; refine appSl wc_len wc_one (by decide) rfl _ _ 22 rfl w.heap.size 48 _ (by rfl) 16 Try.underlying22 infoWay _ [] rfl HO3.out _ [((k : Int), 1)] rfl (HSn.out _) (by unfold maxLen; simp) (by simp) HB3.out.size ?_; intro v3 w3 ho3 hk3; obtain ⟨x3, y3, rfl⟩ := ho3.slice; have HO4 := Lib.hid ho3; have HB4 := Lib.hid (HB3.out.trans hk3.toBelow); clear ho3 hk3)
          go_roundw
          case rel => exact ⟨k + 1, by omega, by go_num, by rw [HJ.out]; exact HO4.out, HB4.out⟩
          case measure => simp [intOf]; omega
        · obtain ⟨j, hjl⟩ : ∃ j, few.length = j + 1 := ⟨few.length - 1, by omega⟩
          rw [stepJ_last few j hjl ((k : Int), 1)] at hj
          rcases ho.at with ⟨_, h0'⟩ | ⟨g, cg, rfl, hBg, hat⟩
          · rw [h0'] at h0; simp at h0
          have hjf : j < few.length := by omega
          have hfj := hfl _ (List.getElem_mem hjf)
          obtain ⟨d1, d2⟩ := ocells_at hat j hjf
          have d3 := hat.thaw2 j
          obtain ⟨y, hy⟩ : ∃ y, few[j] = y := ⟨_, rfl⟩
          have HY := Lib.hid hy
          rw [hy] at d1 d2 hfj hj
          obtain ⟨p2, q2⟩ := y
          unfold Fine at hfj
          simp only at d1 d2 hj hfj
          have hfi : ((few.length : Nat) : Int) - 1 = j := by omega
          have hj0 : (0 : Int) ≤ j := by omega
          have hjL : (j : Int) < few.length := by omega
          have hjN : j < few.length := hjf
          have hfp : 0 < few.length := h0
          have hwj : IntKind.i64.wrap (j : Int) = j := by rw [IntKind.wrap_i64]; omega
          have hwq : IntKind.i64.wrap (q2 + 1) = q2 + 1 := by rw [IntKind.wrap_i64]; omega
          have hwe : IntKind.i64.wrap (p2 + q2) = p2 + q2 := by rw [IntKind.wrap_i64]; omega
          have HAt := Lib.hid hat
          have HO := Lib.hid ho
          have HG := Lib.hid hBg
          have HLl := Lib.hid hll
          have HFl := Lib.hid hjl
          clear ho hb hfl hat hll hy hjl
          by_cases hc : p2 + q2 = k
          · rw [if_pos hc] at hj
            have HJ := Lib.hid hj
            clear hj
            go_upto_region 7 with fail
            go_quiet (fail)
            have HB2 := Lib.hid (HB.out.drewN' nq)
            have HA2 := Lib.hid (show OwnAt wc 2 48 (wr.drewN nq) g cg few from HAt.out.block rfl)
            generalize wr.drewN nq = W3 at HB2 HA2 ⊢
            clear c1 d1 d2 d3
            obtain ⟨f1, f2⟩ := HA2.out.thaw2 j
            obtain ⟨e1, e2⟩ := ocells_at HA2.out j hjf
            have HA4 := Lib.hid (HA2.out.setNum j hjf (q2 + 1))
            rw [HY.out] at HA4 e2
            simp only at e2
            have HB4 := Lib.hid ((show Below w.heap.size w W3 from HB2.out).setCell (p := ⟨g, j * 2 + 1, none⟩) HG.out (.int .i64 (q2 + 1)))
            clear e1 f1
            go_wp2
            go_roundw
            case rel => exact ⟨k + 1, by omega, by go_num, by rw [HJ.out]; have := HA4.out.own wc_len HG.out; rw [List.length_set] at this; exact this, HB4.out⟩
            case measure => simp [intOf]; omega
          · rw [if_neg hc] at hj
            have HJ := Lib.hid hj
            clear hj
            go_upto_region 7 with fail
            go_quiet (fail)
            have HB2 := Lib.hid (HB.out.drewN' nq)
            have HO2 := Lib.hid (HO.out.below ((Below.refl wr.heap.size wr).drewN' nq))
            have HB3 := Lib.hid (HB2.out.trans ((below_new (wr.drewN nq) (.cells (wc ((k : Int), 1)).toArray 48)).mono HB2.out.size))
            have HO3 := Lib.hid (HO2.out.below (below_new (wr.drewN nq) (.cells (wc ((k : Int), 1)).toArray 48)))
            clear c1 d1 d2 d3
            go_wp2_with (at_builtin; refine appSl wc_len wc_one (by decide) rfl _ _ 22 rfl w.heap.size 48 _ (by rfl) 16 Try.underlying22 infoWay _ few rfl HO3.out _ [((k : Int), 1)] rfl (HSn.out _) (by have := HLl.out; unfold maxLen; simp; omega) (by have := HLl.out; simp; omega) HB3.out.size ?_; intro v3 w3 ho3 hk3; obtain ⟨x3, y3, rfl⟩ := ho3.slice; have HO4 := Lib.hid ho3; have HB4 := Lib.hid (HB3.out.trans hk3.toBelow); clear ho3 hk3)
            go_roundw
            case rel => exact ⟨k + 1, by omega, by go_num, by rw [HJ.out]; have := HO4.out; rw [List.length_append] at this; exact this, HB4.out⟩
            case measure => simp [intOf]; omega
    · obtain rfl : k = L := by omega
      have HO := Lib.hid ho
      clear ho hb
      go_wp2
      go_ret
      exact ⟨_, rfl, HO.out, HB.out⟩

end Go.Proofs.Ytijafehhhknamaa.ext
