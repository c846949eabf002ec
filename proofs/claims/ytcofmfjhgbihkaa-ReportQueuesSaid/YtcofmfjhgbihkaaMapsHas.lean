/- Bans that there are. -/
import Derived.Test.YtcofmfjhgbihkaaRows
import Derived.Test.YtcofmfjhgbihkaaMapsBans
import Derived.Test.YtcofmfjhgbihkaaMapsChg
import Derived.Deep.RegionHeld3
namespace Go.Proofs.Ytcofmfjhgbihkaa.crush
open Go.RowKit
open Go.Proofs.Ytcofmfjhgbihkaa.kit Go.Proofs.Ytcofmfjhgbihkaa.own
set_option linter.unusedVariables false
set_option linter.unusedSimpArgs false

theorem eql_ban (x y : BanV) (w : World) : (binOp .eql 136 (.agg (bc x).toArray) (.agg (bc y).toArray)).run Try.prog w = .ok (.bool (decide (x = y))) w := by
  obtain ⟨k, o⟩ := x
  obtain ⟨k', o'⟩ := y
  simp only [bc]
  go_simp
  repeat' split
  all_goals simp [*]
def hasBan (xs : List BanV) (y : BanV) : Bool := xs.any fun x => decide (y = x)
def IdxB (w : World) (xs : List BanV) (y : BanV) (e : Ending) (w' : World) : Prop := ∃ i : Int, e = .returned (.int .i64 i) ∧ (decide (0 ≤ i) = hasBan xs y) ∧ Below w.heap.size w w'
set_option maxHeartbeats 8000000 in
set_option maxRecDepth 100000 in
theorem rHosts_any (v : Value) (xs : List Int) (w : World) (h : Sl ic 1 w v xs) : Calls Try.prog 76 #[v] w fun e w' => e = .returned (.bool (okHosts xs)) ∧ w' = w := by
  obtain ⟨hl, a, c, rfl, -, hc⟩ := h
  have HC := Lib.hid hc
  have HBad : Hid (∀ k (h : k < xs.length), (xs[k] < 0 ∨ 7 < xs[k]) → okHosts xs = false) := Lib.hid (fun k h e => by
    unfold okHosts
    have : (xs.any fun h => !okId h) = true := List.any_eq_true.2 ⟨_, List.getElem_mem h, by unfold okId inR; simp; omega⟩
    rw [this]; simp)
  have HAll : Hid ((∀ j (h : j < xs.length), 0 ≤ xs[j] ∧ xs[j] ≤ 7) → ∀ K : Nat, xs.length = K → okHosts xs = inR K 1 8) := Lib.hid (fun h K hK => by
    subst hK
    unfold okHosts
    have : (xs.any fun h => !okId h) = false := List.any_eq_false.2 (fun x hx => by
      obtain ⟨j, hj, rfl⟩ := List.getElem_of_mem hx
      have := h j hj
      unfold okId inR; simp; omega)
    rw [this]; simp)
  generalize okHosts xs = R at HBad HAll ⊢
  obtain ⟨L, hL⟩ : ∃ L, xs.length = L := ⟨_, rfl⟩
  have HL := Lib.hid hL
  rw [hL] at hl ⊢
  clear hc hL
  go_enter Try.func76, Try.ntmps76
  go_wp2
  go_loopw [3] (fun vi wr => ∃ k : Nat, k ≤ L ∧ vi = .int .i64 k ∧ Hid (∀ j (h : j < xs.length), j < k → 0 ≤ xs[j] ∧ xs[j] ≤ 7) ∧ wr = w) (fun i _ => L - (intOf i).toNat)
  case atStart => exact ⟨0, by omega, rfl, Lib.hid (fun j h h2 => by omega), rfl⟩
  case round =>
    obtain ⟨k, hk, rfl, HN, rfl⟩ := hrel
    by_cases hlt : k < L
    · have hlt' : (k : Int) < L := by omega
      have hk0 : (0 : Int) ≤ k := by omega
      have hi : k < xs.length := by rw [HL.out]; exact hlt
      obtain ⟨b, off, rfl, hbl, hcell⟩ := HC.out (by omega)
      have d1 := icell_at (hcell k hi)
      rw [Nat.mul_one] at d1
      have hbad := HBad.out k hi
      obtain ⟨y, hy⟩ : ∃ y, xs[k] = y := ⟨_, rfl⟩
      have HY := Lib.hid hy
      rw [hy] at d1 hbad
      have HBd := Lib.hid hbad
      clear hcell hbl hy hbad
      by_cases h1 : y < 0
      · have HR := Lib.hid (HBd.out (Or.inl h1))
        go_wp2
        go_ret
        exact ⟨by rw [HR.out]; rfl, rfl⟩
      · by_cases h2 : 7 < y
        · have HR := Lib.hid (HBd.out (Or.inr h2))
          go_wp2
          go_ret
          exact ⟨by rw [HR.out]; rfl, rfl⟩
        · have HN2 : Hid (∀ j (h : j < xs.length), j < k + 1 → 0 ≤ xs[j] ∧ xs[j] ≤ 7) := Lib.hid (fun j h h3 => by
            rcases Nat.lt_or_ge j k with h4 | h4
            · exact HN.out j h h4
            · obtain rfl : j = k := by omega
              rw [HY.out]; omega)
          go_wp2
          clear d1
          go_roundw
          case rel => exact ⟨k + 1, by omega, by go_num, HN2, trivial⟩
          case measure => simp [intOf]; omega
    · obtain rfl : k = L := by omega
      have HF := Lib.hid (HAll.out (fun j h => HN.out j h (by rw [← HL.out]; exact h)) _ HL.out)
      by_cases h1 : (1 : Int) ≤ k
      · by_cases h2 : (k : Int) ≤ 8
        · go_wp2
          go_ret
          exact ⟨by rw [HF.out, inR]; simp [h1, h2], rfl⟩
        · go_wp2
          go_ret
          exact ⟨by rw [HF.out, inR]; simp [h1, h2], rfl⟩
      · go_wp2
        go_ret
        exact ⟨by have h3 : inR (k : Int) 1 8 = false := by { unfold inR; rw [decide_eq_false (by omega : ¬ (1 : Int) ≤ k)]; rfl }
                  rw [HF.out, h3]; rfl, rfl⟩
end Go.Proofs.Ytcofmfjhgbihkaa.crush
