/- The iterator over the frames that are meant. -/
import Derived.Test.YtalnmbfmfeaohaaGreatRows
import Derived.Test.YtalnmbfmfeaohaaGreatFlightPick
namespace Go.Proofs.YtalnmbfmfeaohaaGreat.flight
open Go.RowKit
open Go.Proofs.YtalnmbfmfeaohaaGreat.kit Go.Proofs.YtalnmbfmfeaohaaGreat.own Go.Proofs.YtalnmbfmfeaohaaGreat.iter
set_option linter.unusedVariables false
attribute [local go_sem] Oper.semAt_some

set_option maxHeartbeats 4000000 in
set_option maxRecDepth 100000 in
/-- The iterator that 'those' makes. -/
theorem those1_any (l bl bm : Nat) (xs : List Frm) (v : Value) (mg : Nat) (lb : Array Value) (p : Frm → Bool) (I : Nat → World → Prop) (X : Nat → World → Prop)
    (hok : ∀ x ∈ xs, Frm.Ok x)
    (hcells : ∀ i W, I i W → W.cell? ⟨bl, 0, none⟩ = some v ∧ W.cell? ⟨bm, 0, none⟩ = some (.func (.func mg) #[] lb) ∧ Sl fc 4 W v xs)
    (hbelow : ∀ i W W', I i W → Below W.heap.size W W' → I i W')
    (henter : ∀ args w, (callFunc mg args).run Tryz.prog w = .ok (.enter mg args) w)
    (hmeant : ∀ i W, I i W → ∀ x : Frm, x.Ok → Calls Tryz.prog mg (#[fval x] ++ lb) W fun e W' => e = .returned (.bool (p x)) ∧ Below W.heap.size W W')
    (hskip : ∀ i W (h : i < xs.length), I i W → p xs[i] = false → I (i + 1) W)
    (hyield : ∀ i W (h : i < xs.length), I i W → p xs[i] = true → YieldAt Fence.wide 0 Tryz.prog l #[.int .i64 i, fval xs[i]] W fun e W' => (e = .returned (.bool true) ∧ I (i + 1) W') ∨ (e = .returned (.bool false) ∧ X i W'))
    (W : World) (h0 : I 0 W) :
    CallsIn Fence.wide 0 Tryz.prog 54 #[.func (.yield l) #[] #[], .pointer (some ⟨bl, 0, none⟩), .pointer (some ⟨bm, 0, none⟩)] W fun e W' => (∃ v, e = .returned v) ∧ (I xs.length W' ∨ ∃ i, i < xs.length ∧ X i W') := by
  obtain ⟨c1, c2, hs⟩ := hcells 0 W h0
  obtain ⟨hl, a, cap, rfl, -, -⟩ := id hs
  obtain ⟨L, hL⟩ : ∃ L, xs.length = L := ⟨_, rfl⟩
  have HL := Lib.hid hL
  rw [hL] at hl c1 ⊢
  have HC : Hid (∀ i W, I i W → W.cell? ⟨bl, 0, none⟩ = some (.slice a L cap) ∧ W.cell? ⟨bm, 0, none⟩ = some (.func (.func mg) #[] lb) ∧ Sl fc 4 W (.slice a L cap) xs) := by rw [← hL]; exact hcells
  have HBl := Lib.hid hbelow; have HM := Lib.hid hmeant; have HSk := Lib.hid hskip; have HY := Lib.hid hyield; have HI0 := Lib.hid h0
  clear hcells hbelow hmeant hskip hyield hs hL h0 c2
  refine callsIn_of_wp Tryz.func54 rfl trivial ?_ rfl
  simp only [Tryz.ntmps54, List.size_toArray, List.length_cons, List.length_nil, Nat.reduceAdd, Nat.reduceSub, Array.replicate_succ, Array.replicate_zero, List.push_toArray, List.append_toArray, List.nil_append, List.cons_append]
  gi_wp2
  clear c1
  gi_loopw [8] (fun v wr => ∃ k : Nat, k ≤ L ∧ v = .int .i64 k ∧ I k wr) (fun v _ => L - (intOf v).toNat)
  case atStart => exact ⟨0, by omega, rfl, HI0.out⟩
  case round =>
    obtain ⟨k, hk, rfl, hi⟩ := hrel
    by_cases hlt : k < L
    · have hlt' : (k : Int) < L := by omega
      have hi0 : k < xs.length := by rw [HL.out]; exact hlt
      obtain ⟨_, e2, hs⟩ := HC.out k wr hi
      obtain ⟨_, a', cap', he, -, hcell⟩ := hs
      cases he
      obtain ⟨b, off, rfl, hbl, hcell⟩ := hcell (by omega)
      obtain ⟨d1, d2, d3, d4⟩ := fcells_at (hcell k hi0)
      clear hcell hbl
      obtain ⟨x, hx⟩ : ∃ x, xs[k] = x := ⟨_, rfl⟩
      rw [hx] at d1 d2 d3 d4
      obtain ⟨n, s, d, bo⟩ := x
      simp only at d1 d2 d3 d4
      have hb1 := below_new wr (.cells #[.int .i64 n, .int .i64 s, .int .i64 d, .string bo] 38)
      have hi1 := HBl.out k wr _ hi hb1
      have HX := Lib.hid hx
      have HI1 := Lib.hid hi1
      have hR : (wr.alloc (.cells #[.int .i64 n, .int .i64 s, .int .i64 d, .string bo] 38)).heap[wr.heap.size]? = some (.cells #[.int .i64 n, .int .i64 s, .int .i64 d, .string bo] 38 (0, 0)) := alloc_at _ _
      have HR := Lib.hid hR
      clear hi hb1 hx hR e2
      have hxo : Frm.Ok ⟨n, s, d, bo⟩ := by rw [← HX.out]; exact hok _ (List.getElem_mem _)
      have hcall := callsIn_wide (n := 0) |>.2 (HM.out k _ hi1 ⟨n, s, d, bo⟩ hxo)
      have e2 := (HC.out k _ hi1).2.1
      clear hxo hi1
      obtain ⟨r, hr⟩ : ∃ r, p ⟨n, s, d, bo⟩ = r := ⟨_, rfl⟩
      rw [hr] at hcall
      have HCall := Lib.hid hcall; have HP := Lib.hid hr
      clear hcall hr
      cases r with
      | false =>
        gi_wp2
        refine ⟨trivial, rfl, HCall.out.mono ?_⟩
        rintro e W1 ⟨rfl, hb⟩
        have HI2 := Lib.hid (HSk.out k W1 hi0 (HBl.out k _ _ HI1.out hb) (by rw [HX.out]; exact HP.out))
        have hR1 := fcells_at (x := ⟨n, s, d, bo⟩) (range_of_cells ((hb.block _ (by simp)).trans HR.out)); simp only at hR1; obtain ⟨q1, q2, q3, q4⟩ := hR1
        clear hb e2
        gi_wp2
        refine ⟨fun _ h => (by cases h), ?_⟩
        gi_wp2
        clear q1 q2 q3 q4
        go_roundw
        case rel => exact ⟨k + 1, by omega, by go_num, HI2.out⟩
        case measure => simp [intOf]; omega
      | true =>
        gi_wp2
        refine ⟨trivial, rfl, HCall.out.mono ?_⟩
        rintro e W1 ⟨rfl, hb⟩
        obtain ⟨fn, tmps, asg, bd, hy, hYr⟩ := HY.out k W1 hi0 (HBl.out k _ _ HI1.out hb) (by rw [HX.out]; exact HP.out); rw [HX.out] at hy; unfold fval at hy; simp only at hy; have HYr := Lib.hid hYr; have hR1 := fcells_at (x := ⟨n, s, d, bo⟩) (range_of_cells ((hb.block _ (by simp)).trans HR.out)); simp only at hR1; obtain ⟨q1, q2, q3, q4⟩ := hR1
        clear hb e2 hYr
        gi_wp2
        refine ⟨rfl, HYr.out.mono ?_⟩
        rintro e W3 (⟨rfl, hI⟩ | ⟨rfl, hX⟩)
        · have HI3 := Lib.hid hI
          clear hI hy q1 q2 q3 q4
          gi_wp2
          go_roundw
          case rel => exact ⟨k + 1, by omega, by go_num, HI3.out⟩
          case measure => simp [intOf]; omega
        · have HX3 := Lib.hid hX
          clear hX hy q1 q2 q3 q4
          gi_wp2
          refine bodyPost_ret (results_none rfl _ _ _) rfl ?_
          exact ⟨⟨_, rfl⟩, .inr ⟨k, hi0, HX3.out⟩⟩
    · obtain rfl : k = L := by omega
      have HI := Lib.hid hi
      clear hi
      gi_wp2
      go_end0
      exact ⟨⟨_, rfl⟩, .inl HI.out⟩

end Go.Proofs.YtalnmbfmfeaohaaGreat.flight
