/- slices.Compact of ways. -/
import Derived.Test.YtalnmbfmfeaohaaGreatRows
import Derived.Test.YtalnmbfmfeaohaaGreatFlightRow
import Derived.Deep.LoopGhost
namespace Go.Proofs.YtalnmbfmfeaohaaGreat.flight
open Go.RowKit
open Go.Proofs.YtalnmbfmfeaohaaGreat.kit Go.Proofs.YtalnmbfmfeaohaaGreat.own
set_option linter.unusedVariables false

/-- One of each run of equals. -/
def compW {α : Type} [DecidableEq α] : List α → List α
  | [] => []
  | [x] => [x]
  | x :: y :: r => if x = y then compW (y :: r) else x :: compW (y :: r)

theorem sub_own {α : Type} (x : α) : True := trivial
theorem eql_way' (f g : Wy) (w : World) : (binOp .eql 40 (.agg #[.int .i64 f.1, .int .i64 f.2]) (.agg #[.int .i64 g.1, .int .i64 g.2])).run Tryz.prog w = .ok (.bool (decide (f = g))) w := by
  obtain ⟨a, b⟩ := f
  obtain ⟨a', b'⟩ := g
  by_cases h : (a, b) = (a', b')
  · obtain ⟨rfl, rfl⟩ := Prod.mk.inj h
    simp only
    go_simp
  · have : ¬ (a = a' ∧ b = b') := fun hh => h (by rw [hh.1, hh.2])
    simp only [decide_eq_false h]
    go_simp
    intro h1 h2
    exact this ⟨h1, h2⟩

set_option maxHeartbeats 8000000 in
set_option maxRecDepth 100000 in
/-- Where no two neighbours are equal, nothing is done. -/
theorem compW_id (g cap : Nat) (xs : List Wy) (w : World) (h : OwnAt wc 2 40 w g cap xs) (hne : ∀ i (h : i + 1 < xs.length), xs[i] ≠ xs[i + 1]) :
    Calls Tryz.prog 68 #[.slice (some ⟨g, 0, none⟩) xs.length cap] w fun e w' => e = .returned (.slice (some ⟨g, 0, none⟩) xs.length cap) ∧ Below w.heap.size w w' := by
  have hl := h.le; have hm := h.max
  unfold maxLen at hm
  have HAt := Lib.hid h; have HNe := Lib.hid hne
  obtain ⟨L, hL⟩ : ∃ L, xs.length = L := ⟨_, rfl⟩
  have HL := Lib.hid hL
  rw [hL] at hl ⊢
  clear h hne hL
  by_cases h2 : L < 2
  · have h2' : (L : Int) < 2 := by omega
    go_enter Tryz.func68, Tryz.ntmps68
    go_wp2
    go_ret
    exact ⟨rfl, Below.refl _ _⟩
  · have h2' : ¬ (L : Int) < 2 := by omega
    go_enter Tryz.func68, Tryz.ntmps68
    go_wp2
    go_loopw [3] (fun vk wr => ∃ (k : Nat), vk = .int .i64 k ∧ 1 ≤ k ∧ k ≤ L ∧ Below w.heap.size w wr) (fun vk _ => L - (intOf vk).toNat)
    case atStart => exact ⟨1, rfl, by omega, by omega, Below.refl _ _⟩
    case round =>
      obtain ⟨k, rfl, hk1, hkL, hb⟩ := hrel
      have HB := Lib.hid hb
      clear hb
      by_cases hlt : k < L
      · obtain ⟨m, rfl⟩ : ∃ m, k = m + 1 := ⟨k - 1, by omega⟩
        have hlt' : ((m + 1 : Nat) : Int) < L := by omega
        have hm0 : (0 : Int) ≤ m := by omega
        have hm1 : (m : Int) < L := by omega
        have hwp : IntKind.i64.wrap (m : Int) = (m : Int) := by rw [IntKind.wrap_i64]; omega
        have hi : m + 1 < xs.length := by rw [HL.out]; exact hlt
        have hat := HAt.out.block (HB.out.block g HAt.out.lt)
        obtain ⟨c1, c2⟩ := wcells_at (hat.row wc_len (m + 1) hi)
        obtain ⟨d1, d2⟩ := wcells_at (hat.row wc_len m (by omega))
        have hne := HNe.out m hi
        obtain ⟨x, hx⟩ : ∃ x, xs[m + 1] = x := ⟨_, rfl⟩
        obtain ⟨y, hy⟩ : ∃ y, xs[m]'(by omega) = y := ⟨_, rfl⟩
        rw [hx] at c1 c2 hne
        rw [hy] at d1 d2 hne
        have heq := eql_way' x y
        rw [decide_eq_false (fun e => hne e.symm)] at heq
        obtain ⟨p, q⟩ := x
        obtain ⟨p2, q2⟩ := y
        simp only at c1 c2 d1 d2 heq
        clear hat hne hx hy
        go_upto_region 6 with fail
        go_quiet (fail)
        have HBn := Lib.hid (HB.out.drewN' nq)
        clear c1 c2 d1 d2 heq
        go_wp2
        go_roundw
        case rel => exact ⟨m + 1 + 1, by go_num, by omega, by omega, HBn.out⟩
        case measure => simp [intOf]; omega
      · obtain rfl : k = L := by omega
        go_wp2
        go_ret
        exact ⟨rfl, HB.out⟩

end Go.Proofs.YtalnmbfmfeaohaaGreat.flight
