/- Whether a flight is one: the whole. -/
import Derived.Test.YtalnmbfmfeaohaaGreatRows
import Derived.Test.YtalnmbfmfeaohaaGreatFlightFit
namespace Go.Proofs.YtalnmbfmfeaohaaGreat.flight
open Go.RowKit
open Go.Proofs.YtalnmbfmfeaohaaGreat.kit Go.Proofs.YtalnmbfmfeaohaaGreat.own
set_option linter.unusedVariables false

/-- A box of a flight. -/
def FBox (W : World) (N : Nat) (n : Int) (vl vc : Value) : Prop := W.heap[N]? = some (.cells #[.int .i64 n, vl, vc] 25 (0, 0))
theorem FBox.keep {W W' : World} {N : Nat} {n : Int} {vl vc : Value} (h : FBox W N n vl vc) (hb : Below W.heap.size W W') : FBox W' N n vl vc := (hb.block N (Array.getElem?_eq_some_iff.1 h).1).trans h
theorem FBox.cells {W : World} {N : Nat} {n : Int} {vl vc : Value} (h : FBox W N n vl vc) : W.cell? ⟨N, 0, none⟩ = some (.int .i64 n) ∧ W.cell? ⟨N, 1, none⟩ = some vl ∧ W.cell? ⟨N, 2, none⟩ = some vc := by
  unfold FBox at h
  refine ⟨?_, ?_, ?_⟩ <;> simp [World.cell?, h]
theorem FBox.lt {W : World} {N : Nat} {n : Int} {vl vc : Value} (h : FBox W N n vl vc) : N < W.heap.size := (Array.getElem?_eq_some_iff.1 h).1
theorem fbox_new (w : World) (n : Int) (vl vc : Value) : FBox (w.alloc (.cells #[.int .i64 n, vl, vc] 25)) w.heap.size n vl vc := alloc_at w _
theorem below_new (w : World) (o : Obj) : Below w.heap.size w (w.alloc o) := (Below.refl _ _).alloc (Nat.le_refl _) _

set_option maxHeartbeats 8000000 in
set_option maxRecDepth 100000 in
theorem Fit_any (v : Value) (f : Flt) (w : World) (h : FlR w v f) : Calls Tryz.prog 9 #[v] w fun e w' => e = .returned (.bool f.fit) ∧ Below w.heap.size w w' := by
  obtain ⟨vl, vc, rfl, hl, hc⟩ := h
  have hb := below_new w (.cells #[.int .i64 f.next, vl, vc] 25)
  have HS1 := Lib.hid (hl.keep hb); have HS2 := Lib.hid (hc.keep hb)
  have HX := Lib.hid (fbox_new w f.next vl vc)
  have HB := Lib.hid hb
  obtain ⟨a1, c1, rfl⟩ := hl.slice
  obtain ⟨a2, c2, rfl⟩ := hc.slice
  have hnl : f.list.length ≤ 9223372036854775807 := hl.1
  obtain ⟨n, l, c⟩ := f
  simp only at HS1 HS2 HX HB hnl ⊢
  obtain ⟨L1, hL1⟩ : ∃ L, l.length = L := ⟨_, rfl⟩
  obtain ⟨L2, hL2⟩ : ∃ L, c.length = L := ⟨_, rfl⟩
  have HL1 := Lib.hid hL1
  simp only [hL1, hL2] at HS1 HS2 HX HB hnl ⊢
  have HNl := Lib.hid hnl
  clear hl hc hb hL1 hL2 hnl
  have HF : Hid ((⟨n, l, c⟩ : Flt).fit = (decide (0 ≤ n) && (decide (n ≤ 4611686018427387904) && (decide (L1 ≤ 65536) && (rise n 0 l && wrise none c))))) := by rw [← HL1.out]; rfl
  by_cases h1 : n < 0
  · go_enter Tryz.func9, Tryz.ntmps9
    go_wp2
    go_ret
    refine ⟨?_, HB.out⟩
    rw [HF.out, decide_eq_false (show ¬ 0 ≤ n by omega)]; rfl
  obtain ⟨x, hx⟩ : ∃ x, decide (4611686018427387904 < n) = x := ⟨_, rfl⟩
  have HXd := Lib.hid hx
  cases x with
  | true =>
    have h2 : True → decide (4611686018427387904 < n) = true := fun _ => hx
    clear hx
    go_enter Tryz.func9, Tryz.ntmps9
    go_wp2
    go_ret
    refine ⟨?_, HB.out⟩
    have := of_decide_eq_true HXd.out
    rw [HF.out, decide_eq_false (show ¬ n ≤ 4611686018427387904 by omega)]; simp
  | false =>
    have h2 : True → decide (4611686018427387904 < n) = false := fun _ => hx
    clear hx
    by_cases h3 : 65536 < L1
    · have h3' : (65536 : Int) < L1 := by omega
      go_enter Tryz.func9, Tryz.ntmps9
      go_wp2
      go_ret
      refine ⟨?_, HB.out⟩
      rw [HF.out, decide_eq_false (show ¬ L1 ≤ 65536 by omega)]; simp
    · have h3' : ¬ (65536 : Int) < L1 := by omega
      have HF2 : Hid ((⟨n, l, c⟩ : Flt).fit = (rise n 0 l && wrise none c)) := by
        have hn := of_decide_eq_false HXd.out
        show _ = _
        rw [HF.out, decide_eq_true (show 0 ≤ n by omega), decide_eq_true (show n ≤ 4611686018427387904 by omega), decide_eq_true (show L1 ≤ 65536 by omega)]; rfl
      clear HF HXd
      go_enter Tryz.func9, Tryz.ntmps9
      go_upto_region 3 with fail
      generalize (w.alloc (.cells #[.int .i64 n, .slice a1 L1 c1, .slice a2 L2 c2] 25)) = W at HS1 HS2 HX HB ⊢
      obtain ⟨N, hN⟩ : ∃ N, w.heap.size = N := ⟨_, rfl⟩
      rw [hN] at HX ⊢
      clear hN
      obtain ⟨e1, e2, e3⟩ := HX.out.cells
      go_wp2_with fail
      refine (numbersRise_any _ _ _ _ HS1.out).mono ?_
      rintro e w2 ⟨rfl, hb2⟩
      have HB2 := Lib.hid (HB.out.trans (hb2.mono HB.out.size))
      have HX2 := Lib.hid (HX.out.keep hb2)
      have HS22 := Lib.hid (HS2.out.keep hb2)
      clear e1 e2 e3 hb2
      obtain ⟨e1, e2, e3⟩ := HX2.out.cells
      obtain ⟨r, hr⟩ : ∃ r, rise n 0 l = r := ⟨_, rfl⟩
      have HR := Lib.hid hr
      rw [hr]
      clear hr
      cases r with
      | false =>
        go_wp2
        go_ret
        exact ⟨by rw [HF2.out, HR.out]; rfl, HB2.out⟩
      | true =>
        go_wp2_with fail
        refine (waysRise_any _ _ _ HS22.out).mono ?_
        rintro e w3 ⟨rfl, hb3⟩
        have HB3 := Lib.hid (HB2.out.trans (hb3.mono HB2.out.size))
        clear e1 e2 e3 hb3
        obtain ⟨r2, hr2⟩ : ∃ r, wrise none c = r := ⟨_, rfl⟩
        have HR2 := Lib.hid hr2
        rw [hr2]
        clear hr2
        go_wp2
        go_ret
        exact ⟨by rw [HF2.out, HR.out, HR2.out]; rfl, HB3.out⟩

set_option maxHeartbeats 4000000 in
set_option maxRecDepth 100000 in
theorem less_any (x y : Wy) (w : World) : Calls Tryz.prog 10 #[.agg #[.int .i64 x.1, .int .i64 x.2], .agg #[.int .i64 y.1, .int .i64 y.2]] w fun e w' => e = .returned (.bool (ltW x y)) ∧ ∃ q os', w' = Sort.grow (w.drewN q) os' := by
  obtain ⟨a, b⟩ := x
  obtain ⟨c, d⟩ := y
  simp only
  have HG : Hid (∃ q os', ((w.alloc (.cells #[.int .i64 a, .int .i64 b] 40)).alloc (.cells #[.int .i64 c, .int .i64 d] 40)) = Sort.grow (w.drewN q) os') := ⟨0, _, by rw [Sort.alloc_eq_grow, Sort.alloc_eq_grow, Sort.grow_grow]; rfl⟩
  have HV : Hid (ltW (a, b) (c, d) = decide (a < c ∨ a = c ∧ b < d)) := by show _ = _; rfl
  by_cases h1 : a < c
  · go_enter Tryz.func10, Tryz.ntmps10
    go_wp2
    go_ret
    exact ⟨by rw [HV.out]; simp [h1], HG.out⟩
  · by_cases h2 : a = c
    · have h3 : True → (a == c) = true := fun _ => by simp [h2]
      by_cases h4 : b < d
      · have HW : Hid (ltW (a, b) (c, d) = true) := by show _ = _; rw [HV.out]; simp [h2, h4]
        clear HV h3
        subst h2
        go_enter Tryz.func10, Tryz.ntmps10
        go_wp2
        go_ret
        exact ⟨by rw [HW.out]; rfl, HG.out⟩
      · have HW : Hid (ltW (a, b) (c, d) = false) := by show _ = _; rw [HV.out]; simp [h2, h4]
        clear HV h3
        subst h2
        go_enter Tryz.func10, Tryz.ntmps10
        go_wp2
        go_ret
        exact ⟨by rw [HW.out]; rfl, HG.out⟩
    · have h3 : True → (a == c) = false := fun _ => by simp [h2]
      have HW : Hid (ltW (a, b) (c, d) = false) := by show _ = _; rw [HV.out]; simp [h1, h2]
      clear HV h2
      go_enter Tryz.func10, Tryz.ntmps10
      go_wp2
      go_ret
      exact ⟨by rw [HW.out]; rfl, HG.out⟩

end Go.Proofs.YtalnmbfmfeaohaaGreat.flight
