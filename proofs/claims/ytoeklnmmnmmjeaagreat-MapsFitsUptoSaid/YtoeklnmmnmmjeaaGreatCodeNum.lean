/- Numbers as bytes: the program's walks. -/
import Derived.Test.YtoeklnmmnmmjeaaGreatRows
import Derived.Test.YtoeklnmmnmmjeaaGreatCodeMath
import Derived.Test.YtoeklnmmnmmjeaaGreatCodeLen
import Derived.OpenShut
import Derived.Laws.BitsAllLaws
import Derived.WalkSpells
import Derived.LoopN
import Derived.Deep.OwnRows
import Derived.Deep.Cut
namespace Go.Proofs.YtoeklnmmnmmjeaaGreat.code
open Go.RowKit
open Go.Proofs.YtoeklnmmnmmjeaaGreat.kit Go.Proofs.YtoeklnmmnmmjeaaGreat.cm
set_option linter.unusedVariables false

set_option maxHeartbeats 4000000 in
set_option maxRecDepth 100000 in
theorem flag_any (b : Bool) (w : World) : Calls Tryz.prog 159 #[.bool b] w fun e w' => e = .returned (.int .u8 (flagN b : Nat)) ∧ w = w' := by
  go_enter Tryz.func159, Tryz.ntmps159
  cases b
  · go_wp2
    go_ret
    exact ⟨rfl, rfl⟩
  · go_wp2
    go_ret
    exact ⟨rfl, rfl⟩

theorem xor_ones (a : Nat) (ha : a < 18446744073709551616) : a ^^^ 18446744073709551615 = 18446744073709551615 - a := by
  have h : (BitVec.ofNat 64 a ^^^ BitVec.allOnes 64).toNat = (~~~ BitVec.ofNat 64 a).toNat := by rw [BitVec.xor_allOnes]
  rw [BitVec.toNat_xor, BitVec.toNat_not, BitVec.toNat_ofNat, BitVec.toNat_allOnes, Nat.mod_eq_of_lt (by omega)] at h
  simpa using h

theorem wrap_u64' (n : Int) : IntKind.u64.wrap n = n % 18446744073709551616 := by simp [IntKind.wrap, IntKind.bits, IntKind.signed]

theorem fold_eq (x : Int) (h0 : -9223372036854775808 ≤ x) (h1 : x ≤ 9223372036854775807) :
    bits BinOp.xor IntKind.u64 (IntKind.u64.wrap (IntKind.u64.wrap x * 2)) (IntKind.u64.wrap (x / 9223372036854775808)) = ((zig x : Nat) : Int) := by
  rw [wrap_u64', wrap_u64', wrap_u64']
  unfold zig
  split
  · rename_i hx
    obtain ⟨a, ha⟩ : ∃ a : Nat, (a : Int) = 2 * x + 18446744073709551616 := ⟨(2 * x + 18446744073709551616).toNat, by omega⟩
    rw [show x % 18446744073709551616 * 2 % 18446744073709551616 = (a : Int) from by omega, show x / 9223372036854775808 % 18446744073709551616 = ((18446744073709551615 : Nat) : Int) from by omega]
    rw [u64_xor_nat a 18446744073709551615 (by omega) (by omega), xor_ones a (by omega)]
    omega
  · rename_i hx
    obtain ⟨a, ha⟩ : ∃ a : Nat, (a : Int) = 2 * x := ⟨(2 * x).toNat, by omega⟩
    rw [show x % 18446744073709551616 * 2 % 18446744073709551616 = (a : Int) from by omega, show x / 9223372036854775808 % 18446744073709551616 = ((0 : Nat) : Int) from by omega]
    rw [u64_xor_nat a 0 (by omega) (by omega), Nat.xor_zero]
    omega

theorem zig_lt (x : Int) (h0 : -9223372036854775808 ≤ x) (h1 : x ≤ 9223372036854775807) : zig x < 18446744073709551616 := by
  unfold zig; split <;> omega

set_option maxHeartbeats 4000000 in
set_option maxRecDepth 100000 in
theorem fold_any (x : Int) (h0 : -9223372036854775808 ≤ x) (h1 : x ≤ 9223372036854775807) (w : World) : Calls Tryz.prog 157 #[.int .i64 x] w fun e w' => e = .returned (.int .u64 (zig x)) ∧ w = w' := by
  go_enter Tryz.func157, Tryz.ntmps157
  go_wp2
  go_ret
  exact ⟨ret_int (fold_eq x h0 h1), rfl⟩

/-- Behind k bytes of x, y is what is left, and a says the bytes, each with its mark. -/
structure PackR (x : Nat) (a : Nat → Nat) (k y : Nat) : Prop where
  le : k ≤ 9
  y64 : y < 18446744073709551616
  room : y < 128 ^ (10 - k)
  eq : (List.range k).map a ++ numF (10 - k) y = numB x

theorem map_upd (a : Nat → Nat) (k v : Nat) : (List.range k).map (fun j => if j = k then v else a j) = (List.range k).map a := by
  apply List.map_congr_left
  intro j hj
  have := List.mem_range.1 hj
  simp [show j ≠ k by omega]

theorem PackR.start (x : Nat) (h : x < 18446744073709551616) : PackR x (fun _ => 0) 0 x := ⟨by omega, h, by omega, rfl⟩
theorem PackR.step {x : Nat} {a : Nat → Nat} {k y : Nat} (h : PackR x a k y) (hy : y / 128 ≠ 0) : PackR x (fun j => if j = k then y % 128 + 128 else a j) (k + 1) (y / 128) := by
  have hk : k ≤ 8 := by
    have h1 := h.le
    have h2 := h.room
    rcases Nat.lt_or_ge k 9 with g | g
    · omega
    · obtain rfl : k = 9 := by omega
      simp at h2
      omega
  refine ⟨by omega, by have := h.y64; omega, ?_, ?_⟩
  · have := h.room
    rw [show 10 - k = 10 - (k + 1) + 1 by omega, Nat.pow_succ] at this
    exact Nat.div_lt_of_lt_mul (by rw [Nat.mul_comm]; exact this)
  · have e := h.eq
    rw [show 10 - k = 10 - (k + 1) + 1 by omega, numF, if_neg (by omega)] at e
    rw [List.range_succ, List.map_append, map_upd]
    simpa using e
theorem PackR.last {x : Nat} {a : Nat → Nat} {k y : Nat} (h : PackR x a k y) (hy : y / 128 = 0) : (List.range (k + 1)).map (fun j => if j = k then y else a j) = numB x := by
  have hk := h.le
  have e := h.eq
  rw [show 10 - k = 10 - (k + 1) + 1 by omega, numF, if_pos (by omega)] at e
  rw [List.range_succ, List.map_append, map_upd]
  simpa using e

theorem or128 (c : Nat) (hc : c < 256) : bits .or .u8 (c : Int) 128 = ((c % 128 + 128 : Nat) : Int) := by
  rw [show (128 : Int) = ((128 : Nat) : Int) from rfl, u8_or_nat c 128 hc (by omega)]
  have : ∀ c : Fin 256, c.val ||| 128 = c.val % 128 + 128 := by decide +kernel
  rw [this ⟨c, hc⟩]
theorem andNot128 (c : Nat) (hc : c < 128) : bits .andNot .u8 (((c + 128 : Nat)) : Int) 128 = ((c : Nat) : Int) := by
  rw [show (128 : Int) = ((128 : Nat) : Int) from rfl, u8_andNot_nat (c + 128) 128 (by omega) (by omega)]
  have : ∀ c : Fin 128, (c.val + 128) &&& (255 - 128) = c.val := by decide +kernel
  rw [this ⟨c, hc⟩]

def zeros10 : Array Value := #[.int .u8 0, .int .u8 0, .int .u8 0, .int .u8 0, .int .u8 0, .int .u8 0, .int .u8 0, .int .u8 0, .int .u8 0, .int .u8 0]
theorem zeros10_at (i : Nat) (hi : i < zeros10.size) : zeros10[i]? = some ((fun _ => Value.int .u8 0) i) := by
  have h : i < 10 := hi
  match i, h with
  | 0, _ => rfl
  | 1, _ => rfl
  | 2, _ => rfl
  | 3, _ => rfl
  | 4, _ => rfl
  | 5, _ => rfl
  | 6, _ => rfl
  | 7, _ => rfl
  | 8, _ => rfl
  | 9, _ => rfl

set_option maxHeartbeats 4000000 in
set_option maxRecDepth 100000 in
/-- Ten bytes. -/
def arr10 (a : Nat → Nat) : Array Value := ((List.range 10).map fun j => Value.int .u8 (a j : Nat)).toArray
theorem arr10_one (a : Nat → Nat) : (arr10 a).all (·.oneCell') = true := all_oneCell_toArray (fun v hv => by
  obtain ⟨_, _, rfl⟩ := List.mem_map.1 hv
  rfl)
theorem arr10_list (a : Nat → Nat) : (arr10 a).toList = (List.range 10).map fun j => Value.int .u8 (a j : Nat) := rfl
theorem infoPacked : (Tryz.prog.info? 242).map (·.size) = some 10 := by kernel_rfl

set_option maxHeartbeats 4000000 in
set_option maxRecDepth 100000 in
theorem pack_any (x : Nat) (hx : x < 18446744073709551616) (w : World) :
    Calls Tryz.prog 193 #[.int .u64 x] w fun e w' => (∃ a : Nat → Nat, (List.range (numB x).length).map a = numB x ∧ e = .returned (.agg (arr10 a))) ∧ Below w.heap.size w w' := by
  have HP := Lib.hid (PackR.start x hx)
  clear hx
  go_enter Tryz.func193, Tryz.ntmps193
  go_wp2
  go_loopw [0, 5] (fun vx vi wr => ∃ (k y : Nat) (a : Nat → Nat), PackR x a k y ∧ vx = .int .u64 y ∧ vi = .int .i64 k ∧ wr.rowIs (w.heap.size + 1) 242 10 (fun j => .int .u8 (a j)) ∧ wr.rowIs w.heap.size 242 10 (fun j => .int .u8 0) ∧ Below w.heap.size w wr) (fun _ i _ => 10 - (intOf i).toNat)
  case atStart =>
    have h2 := World.rowIs_alloc w zeros10 242 (fun _ => .int .u8 0) zeros10_at
    refine ⟨0, x, fun _ => 0, HP.out, rfl, rfl, ?_, h2.alloc _, ((Below.refl _ _).alloc (Nat.le_refl _) _).alloc (by simp) _⟩
    have h1 := World.rowIs_alloc (w.alloc (.cells zeros10 242)) zeros10 242 (fun _ => .int .u8 0) zeros10_at
    rw [World.size_alloc] at h1
    exact h1
  case round =>
    obtain ⟨k, y, a, hp, rfl, rfl, hr, hr0, hb⟩ := hrel
    have hk : k ≤ 9 := hp.le
    have c1 := hr.cell (i := k) (by omega)
    have f1 := hr.frozen k
    obtain ⟨c, hc⟩ : ∃ c : Nat, c = y % 128 + 128 := ⟨_, rfl⟩
    obtain ⟨z, hz⟩ : ∃ z : Nat, z = y / 128 := ⟨_, rfl⟩
    have e1 : True → bits .or .u8 ((y : Int) % 256) 128 = (c : Int) := fun _ => by
      have := or128 (y % 256) (by omega)
      rw [show y % 256 % 128 + 128 = c by omega] at this
      simpa using this
    have e2 : True → (y : Int) / 128 = (z : Int) := fun _ => by omega
    have HR := Lib.hid hr; have HR0 := Lib.hid hr0; have HB := Lib.hid hb; have HP' := Lib.hid hp
    clear hb HP
    by_cases hz0 : z = 0
    · subst hz0
      have HY := Lib.hid (show y < 128 by omega)
      have HC := Lib.hid hc
      have e3 : True → bits .andNot .u8 (c : Int) 128 = (y : Int) := fun _ => by
        have := andNot128 (y % 128) (by omega)
        rw [← hc] at this
        rw [this]; omega
      have HZ := Lib.hid hz
      clear hc hz
      have hr2 := ((hr.set k (.int .u8 (c : Nat))).set k (.int .u8 (y : Nat))).congr (g := fun j => .int .u8 ((if j = k then y else a j : Nat) : Int)) (fun j _ => by by_cases e : j = k <;> simp [e])
      have hr3 := (hr0.setOther (a := ⟨w.heap.size + 1, k, none⟩) (by simp) (.int .u8 (c : Nat))).setOther (a := ⟨w.heap.size + 1, k, none⟩) (by simp) (.int .u8 (y : Nat))
      have HBe := Lib.hid ((HB.out.setCell (p := ⟨w.heap.size + 1, k, none⟩) (by simp) (.int .u8 (c : Nat))).setCell (p := ⟨w.heap.size + 1, k, none⟩) (by simp) (.int .u8 (y : Nat)))
      have HL := Lib.hid (hp.last (by have := HZ.out; omega))
      clear hr hr0
      obtain ⟨b, hbd⟩ : ∃ b : Nat → Nat, b = (fun j => if j = k then y else a j) := ⟨_, rfl⟩
      replace hr2 := hr2.congr (g := fun j => .int .u8 (b j : Int)) (fun j _ => by rw [hbd])
      rw [← hbd] at HL
      have HBD := Lib.hid hbd
      clear hbd
      have HR2 := Lib.hid hr2; have HR3 := Lib.hid hr3
      clear hr2 hr3
      go_upto_region 10 with fail
      generalize (wr.setCell ⟨w.heap.size + 1, k, none⟩ (.int .u8 (c : Nat))).setCell ⟨w.heap.size + 1, k, none⟩ (.int .u8 (y : Nat)) = W2 at HR2 HR3 HBe ⊢
      have hA := range_of_row HR2.out; have hT := there_of_row HR3.out
      go_wp2_with (first
        | refine wpList_load_mid rfl 242 _ rfl (w.heap.size + 1) 0 rfl _ _ hA Tryz.underlying242 rfl infoPacked ?_
        | refine wpList_store_mid rfl 242 _ _ rfl w.heap.size 0 (arr10 b) rfl rfl hT infoPacked (arr10_one b) ?_)
      refine bodyPost_ret (ret_cell rfl rfl (World.rangeAt_setCells_same _ _ _ _ hT) Tryz.underlying242 rfl infoPacked) rfl ?_
      refine ⟨⟨b, ?_, rfl⟩, Below.setCells HBe.out (Nat.le_refl _) _ _⟩
      have hl := HL.out
      have : (numB x).length = k + 1 := by rw [← hl]; simp
      rw [this]; exact hl
    · have HC := Lib.hid hc
      have HZ := Lib.hid hz
      have hp2 := Lib.hid hp
      clear hc hz hr hr0 hp
      go_wp2
      go_roundw
      case rel =>
        have hr2 := (HR.out.set k (.int .u8 (c : Nat))).congr (g := fun j => .int .u8 ((if j = k then c else a j : Nat) : Int)) (fun j _ => by by_cases e : j = k <;> simp [e])
        have hr3 := HR0.out.setOther (a := ⟨w.heap.size + 1, k, none⟩) (by simp) (.int .u8 (c : Nat))
        have hs := hp2.out.step (by have := HZ.out; omega)
        rw [← HC.out, ← HZ.out] at hs
        exact ⟨k + 1, z, _, hs, rfl, by go_num, hr2, hr3, HB.out.setCell (p := ⟨w.heap.size + 1, k, none⟩) (by simp) _⟩
      case measure => simp [intOf]; omega

theorem numF_bits : ∀ (k x : Nat), 0 < k → x < 128 ^ k → x < 18446744073709551616 → (numF k x).length = max 1 ((Lib.bitLen x + 6) / 7)
  | 0, _, h, _, _ => by omega
  | k + 1, x, _, hx, h64 => by
    unfold numF
    split
    · rename_i h
      have := Lib.bitLen_le x 7 (by omega) (by simpa using h)
      simp; omega
    · rename_i h
      have h7 := Lib.bitLen_shift 7 x (by simp; omega) (by simpa using h64)
      have hk : 0 < k := by
        rcases Nat.eq_zero_or_pos k with rfl | g
        · simp at hx; omega
        · exact g
      have ih := numF_bits k (x / 128) hk (by rw [Nat.pow_succ] at hx; exact Nat.div_lt_of_lt_mul (by rw [Nat.mul_comm]; exact hx)) (by omega)
      have h1 : 1 ≤ Lib.bitLen (x / 128) := by
        have hne : x / 128 ≠ 0 := by omega
        have := Lib.bitLen_half (x / 128) hne (by have : x / 128 < 18446744073709551616 := by omega
                                                  simpa using this)
        omega
      rw [show (2 : Nat) ^ 7 = 128 from rfl] at h7
      rw [List.length_cons, ih]; omega
theorem numB_bits (x : Nat) (h : x < 18446744073709551616) : (numB x).length = max 1 ((Lib.bitLen x + 6) / 7) := numF_bits 10 x (by omega) (by omega) h

set_option maxHeartbeats 4000000 in
set_option maxRecDepth 100000 in
theorem width_any (x : Nat) (hx : x < 18446744073709551616) (w : World) : Calls Tryz.prog 194 #[.int .u64 x] w fun e w' => e = .returned (.int .i64 ((numB x).length : Nat)) ∧ w = w' := by
  have hl := len64_any (x : Int) (by omega) (by omega) w
  have hb := numB_bits x hx
  have hb64 := Lib.bitLen_le x 64 (by omega) (by simpa using hx)
  simp only [Int.toNat_natCast] at hl
  generalize Lib.bitLen x = L at hl hb hb64
  generalize (numB x).length = M at hb
  clear hx
  go_enter Tryz.func194, Tryz.ntmps194
  go_wp2_with fail
  refine hl.mono ?_
  rintro e w' ⟨rfl, rfl⟩
  have HB := Lib.hid hb
  clear hb hl
  go_wp2
  go_ret
  exact ⟨ret_int (by have := HB.out; omega), rfl⟩

end Go.Proofs.YtoeklnmmnmmjeaaGreat.code
