/- 'After', the program's and the document's. -/
import Derived.Test.YtfpfgckakppllaaRows
import Derived.Test.YtfpfgckakppllaaCodeRead
import Derived.OpenShut
import Derived.Laws.Concat
import Derived.WalkSpells
import Derived.Laws.BitsAllLaws
namespace Go.Proofs.Ytfpfgckakppllaa.code
open Go.RowKit
open Go.Proofs.Ytfpfgckakppllaa.kit Go.Proofs.Ytfpfgckakppllaa.cm
set_option linter.unusedVariables false

/-- How many bytes of the first n are left when the 255 at their end are struck. -/
def strip (s : ByteArray) : Nat → Nat
  | 0 => 0
  | n + 1 => if h : n < s.size then (if s[n].toNat = 255 then strip s n else n + 1) else 0

theorem strip_le (s : ByteArray) : ∀ n, strip s n ≤ n
  | 0 => Nat.le_refl _
  | n + 1 => by
    unfold strip
    split
    · split
      · exact Nat.le_succ_of_le (strip_le s n)
      · exact Nat.le_refl _
    · omega

/-- The text behind all that begin with s: its last byte that is no 255 a greater one. -/
def aftT (s : ByteArray) : ByteArray :=
  match strip s s.size with
  | 0 => { data := #[] }
  | n + 1 => if h : n < s.size then s.extract 0 n ++ tx [s[n].toNat + 1] else { data := #[] }
def aftB (s : ByteArray) : Bool := decide (0 < strip s s.size)

theorem tx_list (l : List Nat) : (tx l).data.toList = l.map fun n => UInt8.ofNat n := by
  unfold tx
  rw [strOfNums_data, List.map_map]
  apply List.map_congr_left
  intro n _
  simp
theorem tx_size (l : List Nat) : (tx l).size = l.length := by
  have h : (tx l).data.toList.length = l.length := by rw [tx_list, List.length_map]
  simpa using h

set_option maxHeartbeats 4000000 in
set_option maxRecDepth 100000 in
theorem after_any (s : ByteArray) (hs : s.size ≤ maxLen) (w : World) :
    Calls Try.prog 18 #[.string s] w fun e w' => e = .returned (.tuple #[.string (aftT s), .bool (aftB s)]) ∧ Below w.heap.size w w' := by
  unfold maxLen at hs
  obtain ⟨N, hN⟩ : ∃ N, strip s s.size = N := ⟨_, rfl⟩
  have HN := Lib.hid hN
  have HT := Lib.hid (rfl : aftT s = aftT s)
  clear hN
  go_enter Try.func18, Try.ntmps18
  go_wp2_with fail
  go_loop [4] (fun v => ∃ k : Nat, k ≤ s.size ∧ v = .int .i64 k ∧ strip s k = N) (fun i => (intOf i).toNat)
  case atStart => exact ⟨s.size, Nat.le_refl _, rfl, HN.out⟩
  case round =>
    obtain ⟨k, hk, rfl, hst⟩ := hrel
    cases k with
    | zero =>
      have hN0 : N = 0 := by rw [← hst]; rfl
      subst hN0
      clear hst
      have HE := Lib.hid (show aftT s = { data := #[] } ∧ aftB s = false by unfold aftT aftB; rw [HN.out]; exact ⟨rfl, rfl⟩)
      go_wp2
      go_ret2
      exact ⟨by rw [HE.out.1, HE.out.2]; rfl, Below.refl _ _⟩
    | succ k =>
      have hlt : k < s.size := by omega
      have hlt' : (k : Int) < s.size := by omega
      by_cases h255 : s[k].toNat = 255
      · have hst2 : strip s k = N := by rw [← hst, strip, dif_pos hlt, if_pos h255]
        have e255 : True → ((s[k].toNat : Nat) : Int) = 255 := fun _ => by rw [h255]; rfl
        have HS := Lib.hid hst2
        clear hst hst2 h255
        go_wp2
        go_round
        case rel => exact ⟨k, by omega, by go_num, HS.out⟩
        case measure => simp [intOf]
      · have hst2 : strip s (k + 1) = k + 1 := by rw [strip, dif_pos hlt, if_neg h255]
        obtain ⟨c, hc⟩ : ∃ c : Nat, c = s[k].toNat + 1 := ⟨_, rfl⟩
        have hc8 : s[k].toNat < 256 := UInt8.toNat_lt _
        have hcc : True → (((s[k].toNat : Nat) : Int) + 1) % 256 = (c : Int) := fun _ => by omega
        have hconv : (convert 24 9 (.slice (some ⟨w.heap.size, 0, none⟩) 1 1)).run Try.prog (w.alloc (.cells #[.int .u8 (c : Int)] 5)).drew = .ok (.string (tx [c])) (w.alloc (.cells #[.int .u8 (c : Int)] 5)).drew :=
          conv_bytes (P := Try.prog) 24 5 9 Try.underlying24 Try.underlying5 Try.underlying9 (ns := [c]) ⟨by simp, some ⟨w.heap.size, 0, none⟩, 1, rfl, fun _ => ⟨w.heap.size, 0, rfl, fun j hj => by
            obtain rfl : j = 0 := by simpa using hj
            show (w.alloc (.cells #[.int .u8 (c : Int)] 5)).cell? _ = _
            rw [World.cell?_alloc_at _ _ _ _ rfl]; rfl⟩⟩
        have HE := Lib.hid (show aftT s = s.extract 0 k ++ tx [c] ∧ aftB s = true by
          have hN : strip s s.size = k + 1 := by rw [HN.out, ← hst, hst2]
          unfold aftT aftB; rw [hN]; simp [hlt, hc])
        have hadd : ∀ w, (Op.stringOp .add (s.extract 0 k) (tx [c])).run Try.prog w = .ok (.string (s.extract 0 k ++ tx [c])) w := fun w => run_string_add_sum (P := Try.prog) w _ _ (by
          have h1 : (tx [c]).size = 1 := tx_size [c]
          have h2 : (s.extract 0 k).size = k := by rw [ByteArray.size_extract]; omega
          rw [h1, h2]; omega)
        clear hst hst2 hc hc8
        go_wp2_with fail
        go_region
        all_goals go_wp2
        all_goals go_ret2
        all_goals exact ⟨by rw [HE.out.1, HE.out.2]; rfl, ((Below.refl _ w).alloc (Nat.le_refl _) _).drew⟩

end Go.Proofs.Ytfpfgckakppllaa.code
