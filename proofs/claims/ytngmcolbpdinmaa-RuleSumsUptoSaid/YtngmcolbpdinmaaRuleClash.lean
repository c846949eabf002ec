/- Whether two nodes have one domain, by the document. -/
import Derived.Test.YtngmcolbpdinmaaRows
import Derived.Test.YtngmcolbpdinmaaRuleLow
namespace Go.Proofs.Ytngmcolbpdinmaa.crush
open Go.RowKit
open Go.Proofs.Ytngmcolbpdinmaa.kit Go.Proofs.Ytngmcolbpdinmaa.own
set_option linter.unusedVariables false

/-- The domain of two nodes, by the document. -/
def clashB (hs : List Int) (d : Int) (a b : Nat) : Bool := (domsE d hs).getD a 0 == (domsE d hs).getD b 0
theorem doms_host (hs : List Int) (i : Nat) : (domsE 2 hs).getD i 0 = hs.getD i 0 := by unfold domsE; rw [if_pos rfl]
theorem doms_osd (hs : List Int) {d : Int} (hd : d ≠ 2) (i : Nat) (hi : i < hs.length) : (domsE d hs).getD i 0 = i := by
  unfold domsE
  rw [if_neg hd, List.getD_eq_getElem?_getD, List.getElem?_map, List.getElem?_range hi]
  rfl
theorem clashB_osd (hs : List Int) {d : Int} (hd : d ≠ 2) (a b : Nat) (ha : a < hs.length) (hb : b < hs.length) : clashB hs d a b = decide (a = b) := by
  unfold clashB
  rw [doms_osd hs hd a ha, doms_osd hs hd b hb]
  by_cases h : a = b
  · subst h; simp
  · simp only [decide_eq_false h, beq_eq_false_iff_ne, ne_eq]; omega
theorem clashB_host (hs : List Int) (a b : Nat) (ha : a < hs.length) (hb : b < hs.length) : clashB hs 2 a b = (hs[a] == hs[b]) := by
  unfold clashB
  rw [doms_host, doms_host, List.getD_eq_getElem?_getD, List.getElem?_eq_getElem ha, List.getD_eq_getElem?_getD, List.getElem?_eq_getElem hb]
  rfl

set_option maxHeartbeats 8000000 in
set_option maxRecDepth 100000 in
theorem clash_any (v : Value) (hs : List Int) (a b : Nat) (d : Int) (ha : a < hs.length) (hb : b < hs.length) (hl : hs.length ≤ 65536) (w : World) (h : Sl ic 1 w v hs) : Calls Try.prog 26 #[v, .int .i64 a, .int .i64 b, .int .i64 d] w fun e w' => e = .returned (.bool (clashB hs d a b)) ∧ Below w.heap.size w w' := by
  obtain ⟨bl, off, c, rfl, hbl, hc⟩ := int_at h ha
  have c1 := hc a ha
  have c2 := hc b hb
  have ha' : (a : Int) < hs.length := by omega
  have hb' : (b : Int) < hs.length := by omega
  have ha0 : (0 : Int) ≤ a := by omega
  have hb0 : (0 : Int) ≤ b := by omega
  have mixed : Try.prog.follows .mixedOrders = true := by kernel_rfl
  by_cases hab : a = b
  · have hf : ((a : Int) == (b : Int)) = true := by rw [hab]; simp
    have e : clashB hs d a b = true := by unfold clashB; rw [hab]; simp
    rw [e]
    generalize hs.length = L at ha' hb' ⊢
    clear hc h c1 c2 e ha hb hl hab ha0 hb0 ha' hb'
    go_enter Try.func26, Try.ntmps26
    go_wp2_with fail
    go_region
    all_goals
      go_wp2
      go_ret
      exact ⟨rfl, by first | exact below_drew (Below.refl _ _) | exact (Below.refl w.heap.size w).drewN' _⟩
  · have hab' : ¬ (a : Int) = b := by omega
    by_cases hd : d = 2
    · subst hd
      have hf : ((a : Int) == (b : Int)) = false := by simpa using hab'
      have e := clashB_host hs a b ha hb
      rw [e]
      generalize hs[a] = p at c1 ⊢
      generalize hs[b] = q at c2 ⊢
      generalize hs.length = L at ha' hb' ⊢
      clear hc h e ha hb hl hab
      go_enter Try.func26, Try.ntmps26
      go_wp2_with fail
      go_quiet (fail)
      have hB : Below w.heap.size w (w.drewN nq) := (Below.refl w.heap.size w).drewN' nq
      clear c1 c2
      go_wp2
      go_ret
      exact ⟨rfl, hB⟩
    · have e := clashB_osd hs hd a b ha hb
      rw [e, decide_eq_false hab]
      generalize hs.length = L at ha' hb' ⊢
      clear hc h c1 c2 e ha hb hl
      go_enter Try.func26, Try.ntmps26
      have hd2 : ¬ d = 2 := hd
      go_wp2_with fail
      go_quiet (fail)
      have hB : Below w.heap.size w (w.drewN nq) := (Below.refl w.heap.size w).drewN' nq
      go_wp2
      go_ret
      refine ⟨?_, hB⟩
      simp [hab']
end Go.Proofs.Ytngmcolbpdinmaa.crush
