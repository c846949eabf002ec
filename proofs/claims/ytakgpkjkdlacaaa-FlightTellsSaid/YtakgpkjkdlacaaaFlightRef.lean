/- The document's side: less, Oldest. -/
import Derived.Test.YtakgpkjkdlacaaaRows
import Derived.Test.YtakgpkjkdlacaaaFlightOld
namespace Go.Proofs.Ytakgpkjkdlacaaa.flight
open Go.RowKit
open Go.Proofs.Ytakgpkjkdlacaaa.kit Go.Proofs.Ytakgpkjkdlacaaa.own
set_option linter.unusedVariables false

set_option maxHeartbeats 8000000 in
set_option maxRecDepth 100000 in
theorem rOldest_any (v : Value) (f : Flt) (to : Int) (w : World) (h : FlR w v f) :
    Calls Try.prog 14 #[v, .int .i64 to] w fun e w' => e = .returned (.tuple #[.int .i64 (oldE f to).1, .bool (oldE f to).2]) ∧ Below w.heap.size w w' := by
  obtain ⟨vl, vc, rfl, hl, hc⟩ := h
  have hb := below_new w (.cells #[.int .i64 f.next, vl, vc] 25)
  have HS := Lib.hid (hl.keep hb); have HX := Lib.hid (fbox_new w f.next vl vc); have HB := Lib.hid hb
  obtain ⟨al, cl, rfl⟩ := hl.slice
  have hnl : f.list.length ≤ 9223372036854775807 := hl.1
  obtain ⟨n, l, c⟩ := f
  simp only at HS HX HB hnl ⊢
  obtain ⟨L, hL⟩ : ∃ L, l.length = L := ⟨_, rfl⟩
  have HL := Lib.hid hL
  simp only [hL] at HS HX HB hnl ⊢
  clear hl hc hb hL
  go_enter Try.func14, Try.ntmps14
  go_upto_region 1 with fail
  generalize (w.alloc (.cells #[.int .i64 n, _, vc] 25)) = W at HS HX HB ⊢
  obtain ⟨N, hN⟩ : ∃ N, w.heap.size = N := ⟨_, rfl⟩
  rw [hN] at HX ⊢
  clear hN
  obtain ⟨e1, e2, e3⟩ := HX.out.cells
  go_wp2
  go_loopw [6] (fun i wr => ∃ k : Nat, k ≤ L ∧ i = .int .i64 k ∧ (∀ j (hj : j < l.length), j < k → (l[j].dst == to) = false) ∧ wr = W) (fun i _ => L - (intOf i).toNat)
  case atStart => exact ⟨0, by omega, rfl, fun j _ hj => by omega, rfl⟩
  case round =>
    obtain ⟨k, hk, rfl, hno, rfl⟩ := hrel
    have HNo := Lib.hid hno
    clear hno
    by_cases hlt : k < L
    · have hlt' : (k : Int) < L := by omega
      have hk0 : (0 : Int) ≤ k := by omega
      have hi1 : k < l.length := by rw [HL.out]; exact hlt
      have hsa := HS.out
      rw [← HL.out] at hsa
      obtain ⟨_, a', cap', he, -, hcell⟩ := hsa
      cases he
      obtain ⟨b, off, rfl, hbl, hcell⟩ := hcell (by omega)
      obtain ⟨c1, c2, c3, c4⟩ := fcells_at (hcell k hi1)
      obtain ⟨x, hx⟩ : ∃ x, l[k] = x := ⟨_, rfl⟩
      rw [hx] at c1 c2 c3 c4
      have HXk := Lib.hid hx
      clear hcell hx hbl
      by_cases hd : x.dst = to
      · have ho : oldE ⟨n, l, c⟩ to = (x.num, true) := by
          unfold oldE
          simp only
          rw [find_of (p := fun x => x.dst == to) hi1 (by simp only [HXk.out, hd, BEq.rfl]) (fun j hj => HNo.out j (by omega) hj), HXk.out]
        go_wp2
        go_ret2
        exact ⟨by rw [ho]; rfl, HB.out⟩
      · have HD := Lib.hid hd
        go_wp2
        go_roundw
        case rel =>
          refine ⟨k + 1, by omega, by go_num, fun j hj hjk => ?_, by trivial⟩
          rcases Nat.lt_or_ge j k with h4 | h4
          · exact HNo.out j hj h4
          · obtain rfl : j = k := by omega
            simp only [HXk.out]
            exact beq_eq_false_iff_ne.2 HD.out
        case measure => simp [intOf]; omega
    · obtain rfl : k = L := by omega
      have ho : oldE ⟨n, l, c⟩ to = (0, false) := by
        unfold oldE
        simp only
        rw [find_none (p := fun x => x.dst == to) (fun x hx => by
          obtain ⟨j, hj, rfl⟩ := List.getElem_of_mem hx
          exact HNo.out j hj (by rw [← HL.out]; exact hj))]
      go_wp2
      go_ret2
      exact ⟨by rw [ho]; rfl, HB.out⟩

end Go.Proofs.Ytakgpkjkdlacaaa.flight
