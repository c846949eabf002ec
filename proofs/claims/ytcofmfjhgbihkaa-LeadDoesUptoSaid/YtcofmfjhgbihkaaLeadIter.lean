/- The iterator over the promises that count. -/
import Derived.Test.YtcofmfjhgbihkaaRows
import Derived.Test.YtcofmfjhgbihkaaLeadBase
import Derived.Test.YtcofmfjhgbihkaaIterX
namespace Go.Proofs.Ytcofmfjhgbihkaa.crush
open Go.RowKit
open Go.Proofs.Ytcofmfjhgbihkaa.kit Go.Proofs.Ytcofmfjhgbihkaa.own Go.Proofs.Ytcofmfjhgbihkaa.iter
set_option linter.unusedVariables false
set_option linter.unusedSimpArgs false
attribute [local go_sem] Oper.semAt_some

set_option maxHeartbeats 8000000 in
set_option maxRecDepth 100000 in
theorem counting1_any (l bl bc : Nat) (xs : List PromV) (v : Value) (n : Int) (I : Nat → World → Prop)
    (hcells : ∀ i W, I i W → W.cell? ⟨bl, 0, none⟩ = some v ∧ W.cell? ⟨bc, 0, none⟩ = some (.int .i64 n) ∧ Sl prc 6 W v xs)
    (hbelow : ∀ i W W', I i W → Below W.heap.size W W' → I i W')
    (hskip : ∀ i W (h : i < xs.length), ¬ (xs[i].n = n ∧ xs[i].has = true) → I i W → I (i + 1) W)
    (hyield : ∀ i W (h : i < xs.length), xs[i].n = n → xs[i].has = true → I i W → YieldAt Fence.wide 0 Try.prog l #[.agg (prc xs[i]).toArray] W fun e W' => e = .returned (.bool true) ∧ I (i + 1) W')
    (W : World) (h0 : I 0 W) :
    CallsIn Fence.wide 0 Try.prog 105 #[.func (.yield l) #[] #[], .pointer (some ⟨bl, 0, none⟩), .pointer (some ⟨bc, 0, none⟩)] W fun e W' => (∃ v, e = .returned v) ∧ I xs.length W' := by
  obtain ⟨c1, c2, hs⟩ := hcells 0 W h0
  obtain ⟨hl, a, cap, rfl, -, -⟩ := id hs
  obtain ⟨L, hL⟩ : ∃ L, xs.length = L := ⟨_, rfl⟩
  have HL := Lib.hid hL
  rw [hL] at hl c1 ⊢
  have HC : Hid (∀ i W, I i W → W.cell? ⟨bl, 0, none⟩ = some (.slice a L cap) ∧ W.cell? ⟨bc, 0, none⟩ = some (.int .i64 n) ∧ Sl prc 6 W (.slice a L cap) xs) := by rw [← hL]; exact Lib.hid hcells
  have HBl := Lib.hid hbelow; have HY := Lib.hid hyield; have HSk := Lib.hid hskip; have HI0 := Lib.hid h0
  clear hcells hbelow hyield hskip hs hL h0
  refine callsIn_of_wp Try.func105 rfl trivial ?_ rfl
  simp only [Try.ntmps105, List.size_toArray, List.length_cons, List.length_nil, Nat.reduceAdd, Nat.reduceSub, Array.replicate_succ, Array.replicate_zero, List.push_toArray, List.append_toArray, List.nil_append, List.cons_append]
  gi_wp2
  clear c1 c2
  gi_loopw [8] (fun v wr => ∃ k : Nat, k ≤ L ∧ v = .int .i64 k ∧ I k wr) (fun v _ => L - (intOf v).toNat)
  case atStart => exact ⟨0, by omega, rfl, HI0.out⟩
  case round =>
    obtain ⟨k, hk, rfl, hi⟩ := hrel
    by_cases hlt : k < L
    · have hlt' : (k : Int) < (L : Int) := by omega
      have hi1 : k < xs.length := by rw [HL.out]; exact hlt
      obtain ⟨_, _, hs⟩ := HC.out k wr hi
      obtain ⟨_, a', cap', he, -, hcell⟩ := hs
      rw [HL.out] at he
      cases he
      obtain ⟨b1, off1, e1, hbl1, hce2⟩ := hcell (by omega)
      cases e1
      have hro := hce2 k hi1
      have hsk := HSk.out k
      have hyk := HY.out k
      obtain ⟨x, hx⟩ : ∃ x, xs[k] = x := ⟨_, rfl⟩
      obtain ⟨xm, xn, xh, xr, xa, xt⟩ := x
      rw [hx] at hro
      simp only [hx] at hsk hyk
      have e0 := hro 0 _ rfl
      have e1 := hro 1 _ rfl
      have e2 := hro 2 _ rfl
      have e3 := hro 3 _ rfl
      have e4 := hro 4 _ rfl
      have e5 := hro 5 _ rfl
      simp only [Nat.add_zero] at e0
      have hi2 := HBl.out k wr _ hi (below_new wr (.cells #[.int .i64 xm, .int .i64 xn, .bool xh, .int .i64 xr, .int .i64 xa, .string xt] 53))
      obtain ⟨d1, d2, -⟩ := HC.out k _ hi2
      have HI2 := Lib.hid hi2
      have HSk2 := Lib.hid (fun W h => hsk W hi1 h)
      have HY2 := Lib.hid (fun W => hyk W hi1)
      clear hro hcell hce2 hbl1 hsk hyk hi hi2 hx
      by_cases hn : xn = n
      · subst hn
        cases xh with
        | true =>
          obtain ⟨fn, tmps, asg, bd, hy, hYr⟩ := HY2.out _ rfl rfl HI2.out
          have HYr := Lib.hid hYr
          unfold prc at hy
          clear hYr
          gi_wp2
          refine ⟨rfl, HYr.out.mono ?_⟩
          rintro e W3 ⟨rfl, hI⟩
          have HI3 := Lib.hid hI
          clear hI hy d1 d2 e0 e1 e2 e3 e4 e5
          gi_wp2
          go_roundw
          case rel => exact ⟨k + 1, by omega, by go_num, HI3.out⟩
          case measure => simp [intOf]; omega
        | false =>
          have HI3 := Lib.hid (HSk2.out _ (by simp) HI2.out)
          gi_wp2
          refine ⟨fun _ h => (by cases h), ?_⟩
          gi_wp2
          go_roundw
          case rel => exact ⟨k + 1, by omega, by go_num, HI3.out⟩
          case measure => simp [intOf]; omega
      · have HI3 := Lib.hid (HSk2.out _ (fun h => hn h.1) HI2.out)
        gi_wp2
        refine ⟨fun _ h => (by cases h), ?_⟩
        gi_wp2
        go_roundw
        case rel => exact ⟨k + 1, by omega, by go_num, HI3.out⟩
        case measure => simp [intOf]; omega
    · obtain rfl : k = L := by omega
      have HI := Lib.hid hi
      clear hi
      gi_wp2
      go_end0
      exact ⟨⟨_, rfl⟩, HI.out⟩
end Go.Proofs.Ytcofmfjhgbihkaa.crush
