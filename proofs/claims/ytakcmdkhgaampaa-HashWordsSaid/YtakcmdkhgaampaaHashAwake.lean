/- Chapter 1's examples: each call at its constant, and the law's own 'awake', which is true. -/
import Derived.Test.YtakcmdkhgaampaaRows
import Derived.Test.YtakcmdkhgaampaaHashLog
import Derived.Test.YtakcmdkhgaampaaHashMix
import Derived.Test.YtakcmdkhgaampaaHashJoin
namespace Go.Proofs.Ytakcmdkhgaampaa.hash
open Go.RowKit
open Go.Proofs.Ytakcmdkhgaampaa.kit
set_option linter.unusedVariables false

theorem digest_any (s : ByteArray) (hs : s.size ≤ maxLen) (w : World) :
    Calls Try.prog 11 #[.string s] w fun e w' => e = .returned (.int .u64 (hash6.fin64 (hash6.mixT 14695981039346656037 s.data.toList))) ∧ w = w' := hash6.digest_any s hs w

theorem log_at (x y : Nat) (h : x < 4294967296) (e : hm.lgx x = y) (w : World) : Calls Try.prog 16 #[.int .u32 x] w fun e w' => e = .returned (.int .u32 y) ∧ w = w' := by
  have := log_any x h w; rw [e] at this; exact this
theorem text_at (s : ByteArray) (y : Nat) (h : s.size ≤ 100) (e : fin32 (mixT 2166136261 s.data.toList) = y) (w : World) : Calls Try.prog 9 #[.string s] w fun e w' => e = .returned (.int .u32 y) ∧ w = w' := by
  have := text_any s (by unfold maxLen; omega) w; rw [e] at this; exact this
theorem digest_at (s : ByteArray) (y : Nat) (h : s.size ≤ 100) (e : hash6.fin64 (hash6.mixT 14695981039346656037 s.data.toList) = y) (w : World) : Calls Try.prog 11 #[.string s] w fun e w' => e = .returned (.int .u64 y) ∧ w = w' := by
  have := digest_any s (by unfold maxLen; omega) w; rw [e] at this; exact this
theorem words_at (v : Value) (ns : List Nat) (y : Nat) (w : World) (hv : SlI w .u32 v ns) (hn : ∀ n ∈ ns, n < 4294967296) (e : fin32 (mixL 2166136261 ns) = y) : Calls Try.prog 7 #[v] w fun e w' => e = .returned (.int .u32 y) ∧ w = w' := by
  have := words_any v ns w hv hn; rw [e] at this; exact this
theorem join_at (v : Value) (ns : List Nat) (y : Nat) (w : World) (hv : SlI w .u64 v ns) (hn : ∀ n ∈ ns, hash6.U64 n) (e : hash6.fin64 (hash6.mixL 14695981039346656037 ns) = y) : Calls Try.prog 13 #[v] w fun e w' => e = .returned (.int .u64 y) ∧ w = w' := by
  have := hash6.join_any v ns w hv hn; rw [e] at this; exact this

theorem words_1 (w : World) (n : Nat) (hn : n = w.heap.size) : Calls Try.prog 7 #[.slice (some ⟨n, 0, none⟩) 1 1] (w.alloc (.cells #[.int .u32 1684234849] 24)) fun e w' => e = .returned (.int .u32 3902797134) ∧ (w.alloc (.cells #[.int .u32 1684234849] 24)) = w' :=
  words_at _ [1684234849] 3902797134 _ ⟨by simp, some ⟨n, 0, none⟩, 1, rfl, fun _ => ⟨n, 0, rfl, fun j hj => by
    obtain rfl : j = 0 := by simp at hj; omega
    rw [World.cell?_alloc_at _ _ _ _ hn]; rfl⟩⟩ (by simp) (by decide +kernel)
theorem join_1 (w : World) (n : Nat) (hn : n = w.heap.size) : Calls Try.prog 13 #[.slice (some ⟨n, 0, none⟩) 1 1] (w.alloc (.cells #[.int .u64 1] 28)) fun e w' => e = .returned (.int .u64 9929646808083455629) ∧ (w.alloc (.cells #[.int .u64 1] 28)) = w' :=
  join_at _ [1] 9929646808083455629 _ ⟨by simp, some ⟨n, 0, none⟩, 1, rfl, fun _ => ⟨n, 0, rfl, fun j hj => by
    obtain rfl : j = 0 := by simp at hj; omega
    rw [World.cell?_alloc_at _ _ _ _ hn]; rfl⟩⟩ (by simp [hash6.U64]) (by decide +kernel)

set_option maxHeartbeats 2000000 in
set_option maxRecDepth 100000 in
theorem awake_any (w : World) : Calls Try.prog 15 #[] w fun e w' => e = .returned (.bool true) ∧ Below w.heap.size w w' := by
  go_enter Try.func15, Try.ntmps15
  go_wp2_with fail
  refine (log_at 3 103872 (by omega) hm.lgx_3 _).mono ?_
  rintro e w' ⟨rfl, rfl⟩
  go_wp2_with fail
  refine (log_at 1 0 (by omega) hm.lgx_1 _).mono ?_
  rintro e w' ⟨rfl, rfl⟩
  go_wp2_with fail
  refine (log_at 4294967295 2097151 (by omega) hm.lgx_top _).mono ?_
  rintro e w' ⟨rfl, rfl⟩
  go_wp2_with fail
  refine (text_at _ 3902797134 (by decide) (by decide +kernel) _).mono ?_
  rintro e w' ⟨rfl, rfl⟩
  go_wp2_with fail
  refine (words_1 _ _ rfl).mono ?_
  rintro e w' ⟨rfl, rfl⟩
  go_wp2_with fail
  refine (text_at _ 2872998923 (by decide) (by decide +kernel) _).mono ?_
  rintro e w' ⟨rfl, rfl⟩
  go_wp2_with fail
  refine (words_at _ [] 2872998923 _ (SlI.nil _ _) (by simp) (by decide +kernel)).mono ?_
  rintro e w' ⟨rfl, rfl⟩
  go_wp2_with fail
  refine (text_at _ 444641715 (by decide) (by decide +kernel) _).mono ?_
  rintro e w' ⟨rfl, rfl⟩
  go_wp2_with fail
  refine (text_at _ 2193908274 (by decide) (by decide +kernel) _).mono ?_
  rintro e w' ⟨rfl, rfl⟩
  go_wp2_with fail
  refine (digest_at _ 12638187199001669824 (by decide) (by decide +kernel) _).mono ?_
  rintro e w' ⟨rfl, rfl⟩
  go_wp2_with fail
  refine (digest_at _ 12638190497536552681 (by decide) (by decide +kernel) _).mono ?_
  rintro e w' ⟨rfl, rfl⟩
  go_wp2_with fail
  refine (join_1 _ _ (by simp)).mono ?_
  rintro e w' ⟨rfl, rfl⟩
  go_wp2_with fail
  refine (join_at _ [] 14695981038468906945 _ (SlI.nil _ _) (by simp) (by decide +kernel)).mono ?_
  rintro e w' ⟨rfl, rfl⟩
  go_wp2
  go_ret
  exact ⟨rfl, ((Below.refl _ _).alloc (Nat.le_refl _) _).alloc (by simp) _⟩

end Go.Proofs.Ytakcmdkhgaampaa.hash
