/- The document's place of a way, and its Put. -/
import Derived.Test.YtalnmbfmfeaohaaGreatRows
import Derived.Test.YtalnmbfmfeaohaaGreatFlightRCopy
import Derived.Test.YtalnmbfmfeaohaaGreatFlightComp
import Derived.Test.YtalnmbfmfeaohaaGreatFlightPut
namespace Go.Proofs.YtalnmbfmfeaohaaGreat.flight
open Go.RowKit
open Go.Proofs.YtalnmbfmfeaohaaGreat.kit Go.Proofs.YtalnmbfmfeaohaaGreat.own
set_option linter.unusedVariables false

/-- What 'place' tells. -/
def PlaceS (w : World) (y : Wy) (xs : List Wy) (e : Ending) (w' : World) : Prop := Below w.heap.size w w' ∧
  ((¬ y ∈ xs ∧ e = .returned (.int .i64 (-1))) ∨ ∃ (i : Nat) (h : i < xs.length), xs[i] = y ∧ e = .returned (.int .i64 i))

set_option maxHeartbeats 8000000 in
set_option maxRecDepth 100000 in
theorem place_any (v : Value) (f : Flt) (y : Wy) (w : World) (h : FlR w v f) : Calls Tryz.prog 41 #[v, .agg #[.int .i64 y.1, .int .i64 y.2]] w (PlaceS w y f.cut) := by
  obtain ⟨vl, vc, rfl, hll, hc⟩ := h
  have hb1 := below_new w (.cells #[.int .i64 f.next, vl, vc] 25)
  have hb2 := below_new (w.alloc (.cells #[.int .i64 f.next, vl, vc] 25)) (.cells #[.int .i64 y.1, .int .i64 y.2] 40)
  have hb := hb1.trans (hb2.mono (by simp))
  have HX := Lib.hid ((fbox_new w f.next vl vc).keep hb2)
  have HY := Lib.hid (alloc_at (w.alloc (.cells #[.int .i64 f.next, vl, vc] 25)) (.cells #[.int .i64 y.1, .int .i64 y.2] 40))
  simp only [World.size_alloc] at HY
  have HS := Lib.hid (hc.keep hb); have HB := Lib.hid hb
  obtain ⟨ax, cx, rfl⟩ := hc.slice
  have hnl : f.cut.length ≤ 9223372036854775807 := hc.1
  obtain ⟨n, l, c⟩ := f
  simp only at HS HX HY HB hnl ⊢
  obtain ⟨L, hL⟩ : ∃ L, c.length = L := ⟨_, rfl⟩
  have HL := Lib.hid hL
  simp only [hL] at HS HX HY HB hnl ⊢
  clear hll hc hb hb1 hb2 hL
  obtain ⟨yp, yq⟩ := y
  simp only at HY HB ⊢
  go_enter Tryz.func41, Tryz.ntmps41
  go_wp2
  generalize (w.alloc (.cells #[.int .i64 n, vl, .slice ax L cx] 25)).alloc (.cells #[.int .i64 yp, .int .i64 yq] 40) = W at HS HX HY HB ⊢
  generalize w.heap.size + 1 = N2 at HY ⊢
  obtain ⟨N, hN⟩ : ∃ N, w.heap.size = N := ⟨_, rfl⟩
  rw [hN] at HX ⊢
  have HN := Lib.hid hN
  clear hN
  go_loopw [5] (fun i wr => ∃ k : Nat, k ≤ L ∧ i = .int .i64 k ∧ (∀ j (hj : j < c.length), j < k → c[j] ≠ (yp, yq)) ∧ Below W.heap.size W wr) (fun i _ => L - (intOf i).toNat)
  case atStart => exact ⟨0, by omega, rfl, fun j _ hj => by omega, Below.refl _ _⟩
  case round =>
    obtain ⟨k, hk, rfl, hno, hb⟩ := hrel
    have HW := Lib.hid hb; have HNo := Lib.hid hno
    clear hb hno
    obtain ⟨e1, e2, e3⟩ := (HX.out.keep HW.out).cells
    obtain ⟨y1, y2⟩ := wcells_at (x := (yp, yq)) (range_of_cells ((HW.out.block _ (Array.getElem?_eq_some_iff.1 HY.out).1).trans HY.out))
    simp only [Nat.zero_add] at y1 y2
    by_cases hlt : k < L
    · have hlt' : (k : Int) < L := by omega
      have hk0 : (0 : Int) ≤ k := by omega
      have hi : k < c.length := by rw [HL.out]; exact hlt
      obtain ⟨_, a', cap', he, -, hcell⟩ := HS.out.keep HW.out
      obtain ⟨bk, off, hak, hbl, hcell⟩ := hcell (by omega)
      have hax : ax = some ⟨bk, off, none⟩ := by injection he with h1 h2 h3; rw [h1, hak]
      obtain ⟨c1, c2⟩ := wcells_at (hcell k hi)
      obtain ⟨x, hx⟩ : ∃ x, c[k] = x := ⟨_, rfl⟩
      rw [hx] at c1 c2
      have HXk := Lib.hid hx
      have heq := eql_way' x (yp, yq)
      subst hax
      clear he hak hbl hcell hx
      by_cases hxy : x = (yp, yq)
      · rw [decide_eq_true hxy] at heq
        have HEq := Lib.hid hxy
        obtain ⟨p, q⟩ := x
        simp only at c1 c2 heq
        clear hxy
        go_upto_region 4 with fail
        go_quiet (fail)
        have HWn := Lib.hid (HW.out.drewN' nq)
        clear c1 c2 e1 e2 e3 y1 y2 heq
        go_wp2
        go_ret
        exact ⟨HB.out.trans (HWn.out.mono HB.out.size), .inr ⟨k, hi, by rw [HXk.out]; exact HEq.out, rfl⟩⟩
      · rw [decide_eq_false hxy] at heq
        have HNe := Lib.hid hxy
        obtain ⟨p, q⟩ := x
        simp only at c1 c2 heq
        clear hxy
        go_upto_region 4 with fail
        go_quiet (fail)
        have HWn := Lib.hid (HW.out.drewN' nq)
        clear c1 c2 e1 e2 e3 y1 y2 heq
        go_wp2
        go_roundw
        case rel =>
          refine ⟨k + 1, by omega, by go_num, fun j hj hjk => ?_, HWn.out⟩
          rcases Nat.lt_or_ge j k with h4 | h4
          · exact HNo.out j hj h4
          · obtain rfl : j = k := by omega
            rw [HXk.out]; exact HNe.out
        case measure => simp [intOf]; omega
    · obtain rfl : k = L := by omega
      go_wp2
      go_ret
      refine ⟨HB.out.trans (HW.out.mono HB.out.size), .inl ⟨fun hm => ?_, rfl⟩⟩
      obtain ⟨j, hj, hjy⟩ := List.getElem_of_mem hm
      exact HNo.out j hj (by rw [← HL.out]; exact hj) hjy

end Go.Proofs.YtalnmbfmfeaohaaGreat.flight
