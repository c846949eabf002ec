/- LeadNext (P16.1, P16.4, P16.10): the law's walk. -/
import Derived.Test.YtmdipcemhaomhaaRows
import Derived.Test.YtmdipcemhaomhaaLeadAwake
import Derived.Test.YtmdipcemhaomhaaLeadRNext
import Derived.Test.YtmdipcemhaomhaaLeadRLater
namespace Go.Proofs.Ytmdipcemhaomhaa.crush
open Go.RowKit
open Go.Proofs.Ytmdipcemhaomhaa.kit Go.Proofs.Ytmdipcemhaomhaa.own
set_option linter.unusedVariables false
set_option linter.unusedSimpArgs false

/-- The box of a ballot. -/
def BBx (W : World) (N : Nat) (x y : Int) : Prop := W.heap[N]? = some (.cells #[.int .i64 x, .int .i64 y] 23 (0, 0))
theorem BBx.lt {W : World} {N : Nat} {x y : Int} (h : BBx W N x y) : N < W.heap.size := (Array.getElem?_eq_some_iff.1 h).1
theorem BBx.keep {W W' : World} {N : Nat} {x y : Int} (h : BBx W N x y) (hb : Below W.heap.size W W') : BBx W' N x y := (hb.block N h.lt).trans h
theorem BBx.cells {W : World} {N : Nat} {x y : Int} (h : BBx W N x y) : W.cell? ⟨N, 0, none⟩ = some (.int .i64 x) ∧ W.cell? ⟨N, 1, none⟩ = some (.int .i64 y) := by
  unfold BBx at h
  refine ⟨?_, ?_⟩ <;> simp [World.cell?, h]
theorem bbx_new (w : World) (x y : Int) : BBx (w.alloc (.cells #[.int .i64 x, .int .i64 y] 23)) w.heap.size x y := alloc_at w _

set_option maxHeartbeats 8000000 in
set_option maxRecDepth 100000 in
theorem walkNext (r m s n q : Int) (hq : I64 q) (w : World) : Calls Try.prog 5 #[.agg #[.int .i64 r, .int .i64 m], .int .i64 s, .int .i64 n, .int .i64 q] w fun e w' => e = .returned (.bool true) ∧ Below w.heap.size w w' := by
  have HN := Lib.hid (fun u => Next_any r m s n u)
  have HR := Lib.hid (fun u => rNext_any r m s n u)
  have HM := Lib.hid (fun u => Most_any q hq u)
  have HQ := Lib.hid (fun u => rMost_any q hq u)
  have HAw := Lib.hid (fun u => awakeL_any u)
  obtain ⟨t, ht⟩ : ∃ t, max r s = t := ⟨_, rfl⟩
  rw [ht] at HN HR
  have HT : Hid (r ≤ t ∧ s ≤ t) := Lib.hid (by omega)
  generalize mostN q = mq at HM HQ
  have HL := Lib.hid (fun u => rLater_any (t + 1) n r m u)
  have hlt : laterB (t + 1) n r m = true := by unfold laterB; simp; omega
  rw [hlt] at HL
  have HBx := Lib.hid (below_new w (.cells #[.int .i64 r, .int .i64 m] 23))
  have HAx := Lib.hid (bbx_new w r m)
  clear hlt ht hq
  unfold NextE at HN HR
  cases hok : nextOk t n with
  | false =>
    rw [hok] at HN HR
    simp only [Bool.false_eq_true, if_false] at HN HR
    go_enter Try.func5, Try.ntmps5
    go_upto_region 1 with fail
    generalize w.alloc _ = W at HBx HAx ⊢
    obtain ⟨c0, c1⟩ := HAx.out.cells
    go_upto_region 2 with (go_at_call 25; refine (HN.out _).mono ?_; rintro e w1 ⟨rfl, hb⟩; have HB1 := Lib.hid (HBx.out.trans (hb.mono HBx.out.size)); have HA1 := Lib.hid (HAx.out.keep hb); clear hb c0 c1)
    have hb2 := below_new w1 (.cells #[.int .i64 0, .int .i64 0] 23)
    have HX2 := Lib.hid (bbx_new w1 (0) (0))
    have HA2 := Lib.hid (HA1.out.keep hb2)
    have HB2 := Lib.hid (HB1.out.trans (hb2.mono HB1.out.size))
    clear hb2 HA1 HB1 HBx HAx
    generalize w1.alloc _ = W2 at HX2 HA2 HB2 ⊢
    generalize w1.heap.size = X at HX2 ⊢
    obtain ⟨c0, c1⟩ := HA2.out.cells
    go_upto_region 3 with (go_at_call 26; refine (HR.out _).mono ?_; rintro e w3 ⟨rfl, hb⟩; have HB3 := Lib.hid (HB2.out.trans (hb.mono HB2.out.size)); have HA3 := Lib.hid (HA2.out.keep hb); have HX3 := Lib.hid (HX2.out.keep hb); clear hb c0 c1)
    have hb4 := below_new w3 (.cells #[.int .i64 0, .int .i64 0] 23)
    have HY4 := Lib.hid (bbx_new w3 (0) (0))
    have HX4 := Lib.hid (HX3.out.keep hb4)
    have HA4 := Lib.hid (HA3.out.keep hb4)
    have HB4 := Lib.hid (HB3.out.trans (hb4.mono HB3.out.size))
    clear hb4 HA3 HB3 HX3 HA2 HB2 HX2
    generalize w3.alloc _ = W4 at HX4 HY4 HA4 HB4 ⊢
    generalize w3.heap.size = Y at HY4 ⊢
    obtain ⟨c0, c1⟩ := HA4.out.cells
    obtain ⟨x0, x1⟩ := HX4.out.cells
    obtain ⟨y0, y1⟩ := HY4.out.cells
    go_upto_region 5 with (first
      | (go_at_call 27; refine (HM.out _).mono ?_; rintro e w5 ⟨rfl, rfl⟩)
      | (go_at_call 28; refine (HQ.out _).mono ?_; rintro e w5 ⟨rfl, rfl⟩))
    go_wp2_with (go_at_call 30; refine (HAw.out _).mono ?_; rintro e w6 ⟨rfl, hb⟩; have HB6 := Lib.hid (HB4.out.trans (hb.mono HB4.out.size)); clear hb)
    go_ret
    exact ⟨rfl, HB6.out⟩
  | true =>
    rw [hok] at HN HR
    simp only [if_true] at HN HR
    go_enter Try.func5, Try.ntmps5
    go_upto_region 1 with fail
    generalize w.alloc _ = W at HBx HAx ⊢
    obtain ⟨c0, c1⟩ := HAx.out.cells
    go_upto_region 2 with (go_at_call 25; refine (HN.out _).mono ?_; rintro e w1 ⟨rfl, hb⟩; have HB1 := Lib.hid (HBx.out.trans (hb.mono HBx.out.size)); have HA1 := Lib.hid (HAx.out.keep hb); clear hb c0 c1)
    have hb2 := below_new w1 (.cells #[.int .i64 (t + 1), .int .i64 n] 23)
    have HX2 := Lib.hid (bbx_new w1 (t + 1) (n))
    have HA2 := Lib.hid (HA1.out.keep hb2)
    have HB2 := Lib.hid (HB1.out.trans (hb2.mono HB1.out.size))
    clear hb2 HA1 HB1 HBx HAx
    generalize w1.alloc _ = W2 at HX2 HA2 HB2 ⊢
    generalize w1.heap.size = X at HX2 ⊢
    obtain ⟨c0, c1⟩ := HA2.out.cells
    go_upto_region 3 with (go_at_call 26; refine (HR.out _).mono ?_; rintro e w3 ⟨rfl, hb⟩; have HB3 := Lib.hid (HB2.out.trans (hb.mono HB2.out.size)); have HA3 := Lib.hid (HA2.out.keep hb); have HX3 := Lib.hid (HX2.out.keep hb); clear hb c0 c1)
    have hb4 := below_new w3 (.cells #[.int .i64 (t + 1), .int .i64 n] 23)
    have HY4 := Lib.hid (bbx_new w3 (t + 1) (n))
    have HX4 := Lib.hid (HX3.out.keep hb4)
    have HA4 := Lib.hid (HA3.out.keep hb4)
    have HB4 := Lib.hid (HB3.out.trans (hb4.mono HB3.out.size))
    clear hb4 HA3 HB3 HX3 HA2 HB2 HX2
    generalize w3.alloc _ = W4 at HX4 HY4 HA4 HB4 ⊢
    generalize w3.heap.size = Y at HY4 ⊢
    obtain ⟨c0, c1⟩ := HA4.out.cells
    obtain ⟨x0, x1⟩ := HX4.out.cells
    obtain ⟨y0, y1⟩ := HY4.out.cells
    go_upto_region 5 with (first
      | (go_at_call 27; refine (HM.out _).mono ?_; rintro e w5 ⟨rfl, rfl⟩)
      | (go_at_call 28; refine (HQ.out _).mono ?_; rintro e w5 ⟨rfl, rfl⟩))
    have hgt : s < t + 1 := by have := HT.out; omega
    go_wp2_with (first
      | (go_at_call 29; refine (HL.out _).mono ?_; rintro e w6 ⟨rfl, hb⟩; have HB6 := Lib.hid (HB4.out.trans (hb.mono HB4.out.size)); have HX6 := Lib.hid (HX4.out.keep hb); clear hb c0 c1 x0 x1 y0 y1; obtain ⟨x0, x1⟩ := HX6.out.cells)
      | (go_at_call 30; refine (HAw.out _).mono ?_; rintro e w7 ⟨rfl, hb⟩; have HB7 := Lib.hid (HB6.out.trans (hb.mono HB6.out.size)); clear hb))
    go_ret
    exact ⟨rfl, HB7.out⟩
end Go.Proofs.Ytmdipcemhaomhaa.crush
