/- The cost of a straw, by the program and by the document. -/
import Derived.Test.YtngmcolbpdinmaaRows
import Derived.Test.YtngmcolbpdinmaaCrushBase
import Derived.Test.YtngmcolbpdinmaaHashMix
import Derived.Test.YtngmcolbpdinmaaHashLog
namespace Go.Proofs.Ytngmcolbpdinmaa.crush
open Go.RowKit
open Go.Proofs.Ytngmcolbpdinmaa.kit Go.Proofs.Ytngmcolbpdinmaa.own Go.Proofs.Ytngmcolbpdinmaa.hash Go.Proofs.Ytngmcolbpdinmaa.hm
set_option linter.unusedVariables false

theorem sl3 (w : World) (a b c : Nat) (e n : Nat) (hn : n = w.heap.size) (cs : Array Value) (hc : cs = #[.int .u32 a, .int .u32 b, .int .u32 c]) : SlI (w.alloc (.cells cs e)) .u32 (.slice (some ⟨n, 0, none⟩) 3 3) [a, b, c] := by
  subst hn hc
  refine ⟨by simp, _, _, rfl, fun _ => ⟨w.heap.size, 0, rfl, fun j hj => ?_⟩⟩
  have hj : j < 3 := hj
  rw [World.cell?_alloc_at _ _ _ _ rfl]
  match j, hj with
  | 0, _ => rfl
  | 1, _ => rfl
  | 2, _ => rfl

theorem fin32_lt (h : Nat) : fin32 h < 4294967296 := by
  have h1 := finB_lt (finA h)
  have h2 : finB (finA h) / 65536 < 2 ^ 32 := by omega
  exact Nat.xor_lt_two_pow h1 h2
theorem u32_and_low (q : Nat) (h : q < 4294967296) : bits BinOp.and IntKind.u32 (q : Int) 65535 = ((q % 65536 : Nat) : Int) := by
  have h1 := u32_and_nat q 65535 h (by omega)
  have h2 : q &&& 65535 = q % 65536 := Nat.and_two_pow_sub_one_eq_mod q 16
  rw [h2] at h1
  exact h1

set_option maxHeartbeats 4000000 in
set_option maxRecDepth 100000 in
theorem Cost_any (x : Nat) (id r : Int) (hx : x < 4294967296) (w : World) :
    Calls Try.prog 52 #[.int .u32 x, .int .i64 id, .int .i64 r] w fun e w' => e = .returned (.int .i64 (costN x id r)) ∧ w' = w.alloc (.cells #[.int .u32 x, .int .u32 (w32 id), .int .u32 (w32 r)] 24) := by
  have e1 : True → id % 4294967296 = (w32 id : Int) := fun _ => by unfold w32; omega
  have e2 : True → r % 4294967296 = (w32 r : Int) := fun _ => by unfold w32; omega
  have HN : Hid (∀ n ∈ [x, w32 id, w32 r], n < 4294967296) := Lib.hid (by
    intro n hn
    have h1 := w32_lt id
    have h2 := w32_lt r
    simp at hn
    rcases hn with rfl | rfl | rfl <;> omega)
  have HS := Lib.hid (sl3 w x (w32 id) (w32 r) 24 _ rfl _ rfl)
  have HC := Lib.hid (show costN x id r = 1048576 - lgx (fin32 (mixL 2166136261 [x, w32 id, w32 r]) % 65536 + 1) from rfl)
  have HL := Lib.hid (lg_le (fin32 (mixL 2166136261 [x, w32 id, w32 r]) % 65536) (Nat.mod_lt _ (by decide)))
  clear hx
  go_enter Try.func52, Try.ntmps52
  go_wp2_with fail
  refine (words_any _ _ _ HS.out HN.out).mono ?_
  rintro e w' ⟨rfl, rfl⟩
  have e3 : True → _ := fun _ => u32_and_low (fin32 (mixL 2166136261 [x, w32 id, w32 r])) (fin32_lt _)
  clear HS HN e1 e2
  generalize fin32 (mixL 2166136261 [x, w32 id, w32 r]) = q at HC HL e3 ⊢
  have hq : q % 65536 < 65536 := Nat.mod_lt _ (by decide)
  generalize q % 65536 = u at HC HL e3 hq ⊢
  obtain ⟨u1, hu1⟩ : ∃ u1, u + 1 = u1 := ⟨_, rfl⟩
  rw [hu1] at HC HL
  have e4 : True → (u : Int) + 1 = (u1 : Int) := fun _ => by omega
  have hq2 : u1 < 65537 := by omega
  clear hu1
  go_wp2_with fail
  refine (log_any u1 (by omega) _).mono ?_
  rintro e w' ⟨rfl, rfl⟩
  clear e3 e4 hq hq2
  generalize lgx u1 = g at HC HL ⊢
  go_wp2
  go_ret
  refine ⟨ret_int ?_, rfl⟩
  have h1 := HC.out
  have h2 := HL.out
  rw [h1]
  have w1 : wrap64 (g : Int) = g := (by unfold wrap64; omega)
  have w2 : wrap64 (1048576 - (g : Int)) = 1048576 - g := (by unfold wrap64; omega)
  rw [w1, w2]
  omega

set_option maxHeartbeats 4000000 in
set_option maxRecDepth 100000 in
theorem rCost_any (x : Nat) (id r : Int) (hx : x < 4294967296) (w : World) :
    Calls Try.prog 46 #[.int .u32 x, .int .i64 id, .int .i64 r] w fun e w' => e = .returned (.int .i64 (costN x id r)) ∧ w' = w.alloc (.cells #[.int .u32 x, .int .u32 (w32 id), .int .u32 (w32 r)] 24) := by
  have e1 : True → id % 4294967296 = (w32 id : Int) := fun _ => by unfold w32; omega
  have e2 : True → r % 4294967296 = (w32 r : Int) := fun _ => by unfold w32; omega
  have HN : Hid (∀ n ∈ [x, w32 id, w32 r], n < 4294967296) := Lib.hid (by
    intro n hn
    have h1 := w32_lt id
    have h2 := w32_lt r
    simp at hn
    rcases hn with rfl | rfl | rfl <;> omega)
  have HS := Lib.hid (sl3 w x (w32 id) (w32 r) 24 _ rfl _ rfl)
  have HC := Lib.hid (show costN x id r = 1048576 - lgx (fin32 (mixL 2166136261 [x, w32 id, w32 r]) % 65536 + 1) from rfl)
  have HL := Lib.hid (lg_le (fin32 (mixL 2166136261 [x, w32 id, w32 r]) % 65536) (Nat.mod_lt _ (by decide)))
  clear hx
  go_enter Try.func46, Try.ntmps46
  go_wp2_with fail
  refine (rwords_any _ _ _ HS.out HN.out).mono ?_
  rintro e w' ⟨rfl, rfl⟩
  have e3 : True → _ := fun _ => u32_and_low (fin32 (mixL 2166136261 [x, w32 id, w32 r])) (fin32_lt _)
  clear HS HN e1 e2
  generalize fin32 (mixL 2166136261 [x, w32 id, w32 r]) = q at HC HL e3 ⊢
  have hq : q % 65536 < 65536 := Nat.mod_lt _ (by decide)
  generalize q % 65536 = u at HC HL e3 hq ⊢
  obtain ⟨u1, hu1⟩ : ∃ u1, u + 1 = u1 := ⟨_, rfl⟩
  rw [hu1] at HC HL
  have e4 : True → (u : Int) + 1 = (u1 : Int) := fun _ => by omega
  have hq2 : u1 < 65537 := by omega
  clear hu1
  go_wp2_with fail
  refine (rlog_any u1 (by omega) _).mono ?_
  rintro e w' ⟨rfl, rfl⟩
  clear e3 e4 hq hq2
  generalize lgx u1 = g at HC HL ⊢
  go_wp2
  go_ret
  refine ⟨ret_int ?_, rfl⟩
  have h1 := HC.out
  have h2 := HL.out
  rw [h1]
  have w1 : wrap64 (g : Int) = g := (by unfold wrap64; omega)
  have w2 : wrap64 (1048576 - (g : Int)) = 1048576 - g := (by unfold wrap64; omega)
  rw [w1, w2]
  omega

end Go.Proofs.Ytngmcolbpdinmaa.crush
