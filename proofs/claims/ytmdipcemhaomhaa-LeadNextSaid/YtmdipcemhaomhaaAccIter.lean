/- The iterator over the texts from a place on. -/
import Derived.Test.YtmdipcemhaomhaaRows
import Derived.Test.YtmdipcemhaomhaaAccAcc
import Derived.Test.YtmdipcemhaomhaaIterX
namespace Go.Proofs.Ytmdipcemhaomhaa.crush
open Go.RowKit
open Go.Proofs.Ytmdipcemhaomhaa.kit Go.Proofs.Ytmdipcemhaomhaa.own Go.Proofs.Ytmdipcemhaomhaa.iter
set_option linter.unusedVariables false
set_option linter.unusedSimpArgs false
attribute [local go_sem] Oper.semAt_some

theorem fromL_some {l : List ByteArray} {d : Nat} : fromL l (d : Int) = l.drop d := by
  unfold fromL
  rw [if_neg (by omega)]
  simp
theorem fromL_none {l : List ByteArray} {f : Int} (h : f < 0 ∨ (l.length : Int) ≤ f) : fromL l f = [] := by
  unfold fromL
  split
  · rfl
  · exact List.drop_eq_nil_of_le (by omega)

set_option maxHeartbeats 8000000 in
set_option maxRecDepth 100000 in
theorem from1_any (l bf bl : Nat) (xs : List ByteArray) (v : Value) (f : Int) (I X : Nat → World → Prop)
    (hcells : ∀ i W, I i W → W.cell? ⟨bf, 0, none⟩ = some (.int .i64 f) ∧ W.cell? ⟨bl, 0, none⟩ = some v ∧ Sl tx 1 W v xs)
    (hyield : ∀ i W (h : i < (fromL xs f).length), I i W → YieldAt Fence.wide 0 Try.prog l #[.string (fromL xs f)[i]] W fun e W' => (e = .returned (.bool true) ∧ I (i + 1) W') ∨ (e = .returned (.bool false) ∧ X i W'))
    (hcp : ∃ x c, v = .slice x xs.length c ∧ xs.length ≤ c) (W : World) (h0 : I 0 W) :
    CallsIn Fence.wide 0 Try.prog 60 #[.func (.yield l) #[] #[], .pointer (some ⟨bf, 0, none⟩), .pointer (some ⟨bl, 0, none⟩)] W fun e W' => (∃ v, e = .returned v) ∧ (I (fromL xs f).length W' ∨ ∃ i, i < (fromL xs f).length ∧ X i W') := by
  obtain ⟨c1, c2, hs⟩ := hcells 0 W h0
  obtain ⟨hl, a, cap, rfl, hcap, hce⟩ := id hs
  obtain ⟨_, _, hcq, hcp⟩ := hcp
  cases hcq
  by_cases hf : f < 0 ∨ (xs.length : Int) ≤ f
  · rw [fromL_none hf]
    have HI := Lib.hid h0
    clear hcells hyield h0 hs hce hcap
    refine callsIn_of_wp Try.func60 rfl trivial ?_ rfl
    simp only [Try.ntmps60, List.size_toArray, List.length_cons, List.length_nil, Nat.reduceAdd, Nat.reduceSub, Array.replicate_succ, Array.replicate_zero, List.push_toArray, List.append_toArray, List.nil_append, List.cons_append]
    by_cases h1 : f < 0
    · clear hf
      gi_wp2
      refine bodyPost_ret (results_none rfl _ _ _) rfl ?_
      first | exact ⟨⟨_, rfl⟩, HI.out⟩ | exact ⟨⟨_, rfl⟩, Or.inl HI.out⟩
    · have h2 : (xs.length : Int) ≤ f := by omega
      clear hf
      gi_wp2
      refine bodyPost_ret (results_none rfl _ _ _) rfl ?_
      first | exact ⟨⟨_, rfl⟩, HI.out⟩ | exact ⟨⟨_, rfl⟩, Or.inl HI.out⟩
  · obtain ⟨d, rfl⟩ : ∃ d : Nat, f = d := ⟨f.toNat, by omega⟩
    have hd : d < xs.length := by omega
    obtain ⟨b, off, rfl, hbl, hcell⟩ := hce (by omega)
    rw [fromL_some] at hyield ⊢
    obtain ⟨L, hL⟩ : ∃ L, xs.length = L := ⟨_, rfl⟩
    have HL := Lib.hid hL
    have HD : Hid ((xs.drop d).length = L - d) := Lib.hid (by rw [List.length_drop, hL])
    have HC := Lib.hid hcells; have HY := Lib.hid hyield; have HI0 := Lib.hid h0
    rw [hL] at hd c2 HC hl hf
    rw [HD.out]
    have h1 : ¬ (d : Int) < 0 := by omega
    have h2 : ¬ (L : Int) ≤ (d : Int) := by omega
    have hcd : ¬ cap = d := by omega
    have hdl : d ≤ L := by omega
    have hLc : L ≤ cap := by omega
    clear hcells hyield h0 hs hce hL hcap hcell hf hl
    refine callsIn_of_wp Try.func60 rfl trivial ?_ rfl
    simp only [Try.ntmps60, List.size_toArray, List.length_cons, List.length_nil, Nat.reduceAdd, Nat.reduceSub, Array.replicate_succ, Array.replicate_zero, List.push_toArray, List.append_toArray, List.nil_append, List.cons_append]
    gi_wp2
    clear c1 c2 hcd
    gi_loopw [18] (fun v wr => ∃ k : Nat, k ≤ L - d ∧ v = .int .i64 k ∧ I k wr) (fun v _ => L - d - (intOf v).toNat)
    case atStart => exact ⟨0, by omega, rfl, HI0.out⟩
    case round =>
      obtain ⟨k, hk, rfl, hi⟩ := hrel
      obtain ⟨M, hM⟩ : ∃ M, L - d = M := ⟨_, rfl⟩
      have HM := Lib.hid hM
      rw [hM] at hk ⊢
      by_cases hlt : k < M
      · have hlt' : (k : Int) < (M : Int) := by omega
        have hi0 : k < (xs.drop d).length := by rw [HD.out]; omega
        have hi1 : d + k < xs.length := by rw [HL.out]; omega
        obtain ⟨_, _, hs⟩ := HC.out k wr hi
        obtain ⟨_, a', cap', he, -, hcell⟩ := hs
        cases he
        obtain ⟨b1, off1, e1, hbl1, hcell⟩ := hcell (by omega)
        cases e1
        have d1 := tcell_at (hcell (d + k) hi1)
        rw [Nat.mul_one, ← Nat.add_assoc] at d1
        clear hcell hbl1
        obtain ⟨fn, tmps, asg, bd, hy, hYr⟩ := HY.out k wr hi0 hi
        have hx2 : (xs.drop d)[k] = xs[d + k] := by simp
        obtain ⟨z, hz⟩ : ∃ z, xs[d + k] = z := ⟨_, rfl⟩
        rw [hz] at hx2 d1
        rw [hx2] at hy
        have HYr := Lib.hid hYr
        clear hYr hz hx2 hi hM
        gi_wp2
        refine ⟨rfl, HYr.out.mono ?_⟩
        rintro e W3 (⟨rfl, hI⟩ | ⟨rfl, hX⟩)
        · have HI3 := Lib.hid hI
          clear hI hy d1
          gi_wp2
          go_roundw
          case rel => exact ⟨k + 1, by omega, by go_num, HI3.out⟩
          case measure => simp [intOf]; omega
        · have HX3 := Lib.hid hX
          clear hX hy d1
          gi_wp2
          refine bodyPost_ret (results_none rfl _ _ _) rfl ?_
          exact ⟨⟨_, rfl⟩, Or.inr ⟨k, by have := HM.out; have := HL.out; omega, HX3.out⟩⟩
      · obtain rfl : k = M := by omega
        have HI := Lib.hid hi
        clear hi hM
        gi_wp2
        go_end0
        exact ⟨⟨_, rfl⟩, Or.inl (by rw [HM.out]; exact HI.out)⟩
end Go.Proofs.Ytmdipcemhaomhaa.crush
