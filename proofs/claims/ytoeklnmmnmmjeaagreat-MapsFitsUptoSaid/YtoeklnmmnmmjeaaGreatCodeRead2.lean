/- The reader takes a flag, a word of four bytes, eight bytes. -/
import Derived.Test.YtoeklnmmnmmjeaaGreatRows
import Derived.Test.YtoeklnmmnmmjeaaGreatCodeRead
import Derived.LoopN
namespace Go.Proofs.YtoeklnmmnmmjeaaGreat.code
open Go.RowKit
open Go.Proofs.YtoeklnmmnmmjeaaGreat.kit Go.Proofs.YtoeklnmmnmmjeaaGreat.cm
set_option linter.unusedVariables false

def rTruth : List Nat → Except Int (Bool × List Nat)
  | [] => .error 11
  | c :: r => if 1 < c then .error 10 else .ok (decide (c = 1), r)

set_option maxHeartbeats 4000000 in
set_option maxRecDepth 100000 in
theorem truth_any {L : Nat} (rb : Nat) (bs : List Nat) (W : World) (h : Rest L W rb bs) :
    Calls Tryz.prog 188 #[.pointer (some ⟨rb, 0, none⟩)] W (RdP L (fun b : Bool => .bool b) false W rb (rTruth bs)) := by
  have H := Lib.hid (one_any rb bs W h)
  clear h
  go_enter Tryz.func188, Tryz.ntmps188
  go_wp2_with fail
  cases bs with
  | nil =>
    refine H.out.mono ?_
    rintro e W1 ⟨rfl, hne, hg⟩
    have HG := Lib.hid hg
    clear hg hne H
    go_wp2
    go_ret2
    exact ⟨rfl, by decide, HG.out⟩
  | cons c r =>
    refine H.out.mono ?_
    rintro e W1 ⟨rfl, hr, hg⟩
    have HG := Lib.hid hg; have HR := Lib.hid hr
    clear hg hr H
    by_cases h1 : 1 < c
    · have h1' : (1 : Int) < c := by omega
      have HE := Lib.hid (show rTruth (c :: r) = .error 10 by rw [rTruth, if_pos h1])
      go_wp2
      go_ret2
      rw [HE.out]
      exact ⟨rfl, by decide, HG.out⟩
    · have h1' : ¬ (1 : Int) < c := by omega
      have HE := Lib.hid (show rTruth (c :: r) = .ok (decide (c = 1), r) by rw [rTruth, if_neg h1])
      have hd : True → ((c : Int) == 1) = decide (c = 1) := fun _ => by
        by_cases h : c = 1
        · subst h; rfl
        · rw [decide_eq_false h]; simp; omega
      clear h1
      generalize decide (c = 1) = d at hd HE
      go_wp2
      go_ret2
      rw [HE.out]
      exact ⟨rfl, HR.out, HG.out⟩

/-- Four bytes, the lowest first. -/
def rWord (bs : List Nat) : Except Int (Nat × List Nat) :=
  if bs.length < 4 then .error 11 else .ok (bs.getD 0 0 + 256 * (bs.getD 1 0) + 65536 * (bs.getD 2 0) + 16777216 * (bs.getD 3 0), bs.drop 4)

theorem i64_or_nat (a b : Nat) (ha : a < 9223372036854775808) (hb : b < 9223372036854775808) : bits .or .i64 (a : Int) (b : Int) = ((a ||| b : Nat) : Int) := by
  have e : bits .or .i64 (a : Int) (b : Int) = IntKind.i64.wrap ((BitVec.ofInt 64 (a : Int) ||| BitVec.ofInt 64 (b : Int)).toNat : Nat) := rfl
  have hlt : a ||| b < 9223372036854775808 := by
    have := Nat.or_lt_two_pow (n := 63) (x := a) (y := b) (by simpa using ha) (by simpa using hb)
    simpa using this
  rw [e, BitVec.toNat_or, ofInt_u64 a (by omega), ofInt_u64 b (by omega), IntKind.wrap_i64]
  omega
theorem i64_join (k x c : Nat) (hk : k ≤ 24) (hx : x < 2 ^ k) (hc : c < 256) : bits .or .i64 (x : Int) ((c : Int) * ((2 ^ k : Nat) : Int)) = ((x + c * 2 ^ k : Nat) : Int) := by
  have hp : 2 ^ k ≤ 2 ^ 24 := Nat.pow_le_pow_right (by omega) hk
  have h1 : c * 2 ^ k ≤ 255 * 2 ^ 24 := Nat.mul_le_mul (by omega) hp
  have h2 : (255 : Nat) * 2 ^ 24 = 4278190080 := by decide
  have h3 : (2 : Nat) ^ 24 = 16777216 := by decide
  have := i64_or_nat x (c * 2 ^ k) (by omega) (by omega)
  rw [Nat.or_comm, nat_join k (c * 2 ^ k) x (Nat.mul_mod_left _ _) hx, Nat.add_comm] at this
  rw [← this]; push_cast; rfl

set_option maxHeartbeats 4000000 in
set_option maxRecDepth 100000 in
theorem word_any {L : Nat} (rb : Nat) (bs : List Nat) (W : World) (h : Rest L W rb bs) :
    Calls Tryz.prog 186 #[.pointer (some ⟨rb, 0, none⟩)] W (RdP L (fun x : Nat => .int .i64 (x : Int)) 0 W rb (rWord bs)) := by
  have H := Lib.hid (take_any rb bs 4 (by omega) W h)
  have H8 := Lib.hid h.1
  clear h
  go_enter Tryz.func186, Tryz.ntmps186
  go_wp2_with fail
  refine H.out.mono ?_
  rintro e W1 (⟨hlt, rfl, rfl⟩ | ⟨hge, v, rfl, hs, hr, hg⟩)
  · have HE := Lib.hid (show rWord bs = .error 11 by rw [rWord, if_pos hlt])
    clear hlt H H8
    go_wp2
    go_ret2
    rw [HE.out]
    exact ⟨rfl, by decide, World.grownBy.refl _ _⟩
  · obtain ⟨c0, c1, c2, c3, r, hbs⟩ : ∃ c0 c1 c2 c3 r, bs = c0 :: c1 :: c2 :: c3 :: r := by
      match bs, hge with
      | c0 :: c1 :: c2 :: c3 :: r, _ => exact ⟨c0, c1, c2, c3, r, rfl⟩
    subst hbs
    have b0 := H8.out c0 (by simp)
    have b1 := H8.out c1 (by simp)
    have b2 := H8.out c2 (by simp)
    have b3 := H8.out c3 (by simp)
    obtain ⟨hl, a, cap, rfl, hle, hc⟩ := hs
    obtain ⟨b, off, rfl, hP, hlt, hcell⟩ := hc (by simp)
    have q0 : W1.cell? ⟨b, off, none⟩ = some (.int .u8 (c0 : Nat)) := by simpa using hcell 0 (by simp)
    have q1 : W1.cell? ⟨b, off + 1, none⟩ = some (.int .u8 (c1 : Nat)) := by simpa using hcell 1 (by simp)
    have q2 : W1.cell? ⟨b, off + 2, none⟩ = some (.int .u8 (c2 : Nat)) := by simpa using hcell 2 (by simp)
    have q3 : W1.cell? ⟨b, off + 3, none⟩ = some (.int .u8 (c3 : Nat)) := by simpa using hcell 3 (by simp)
    have HR := Lib.hid hr; have HG := Lib.hid hg
    obtain ⟨y1, hy1⟩ : ∃ y : Nat, y = c0 + c1 * 256 := ⟨_, rfl⟩
    obtain ⟨y2, hy2⟩ : ∃ y : Nat, y = y1 + c2 * 65536 := ⟨_, rfl⟩
    obtain ⟨y3, hy3⟩ : ∃ y : Nat, y = y2 + c3 * 16777216 := ⟨_, rfl⟩
    have HE := Lib.hid (show rWord (c0 :: c1 :: c2 :: c3 :: r) = .ok (y3, r) by
      rw [rWord, if_neg (by simp), hy3, hy2, hy1]; simp [Nat.mul_comm])
    have e0 : True → bits .or .i64 0 (c0 : Int) = (c0 : Int) := fun _ => by
      have := i64_or_nat 0 c0 (by omega) (by omega)
      rw [Nat.zero_or] at this; exact this
    have e1 : True → bits .or .i64 (c0 : Int) ((c1 : Int) * 256) = (y1 : Int) := fun _ => by rw [hy1]; exact i64_join 8 c0 c1 (by omega) (by simpa using b0) b1
    have e2 : True → bits .or .i64 (y1 : Int) ((c2 : Int) * 65536) = (y2 : Int) := fun _ => by rw [hy2]; exact i64_join 16 y1 c2 (by omega) (by simp; omega) b2
    have e3 : True → bits .or .i64 (y2 : Int) ((c3 : Int) * 16777216) = (y3 : Int) := fun _ => by rw [hy3]; exact i64_join 24 y2 c3 (by omega) (by simp; omega) b3
    clear hc hcell hr hg H H8 hle hl hP hlt hy1 hy2 hy3
    go_wp2
    refine wp_loop_rounds 5 ?_
    rw [rounds_succ]; go_wp2
    rw [rounds_succ]; go_wp2
    rw [rounds_succ]; go_wp2
    rw [rounds_succ]; go_wp2
    rw [rounds_succ]; go_wp2
    go_ret2
    rw [HE.out]
    exact ⟨rfl, HR.out, HG.out⟩

/-- Eight bytes, the highest first. -/
def rLong (bs : List Nat) : Except Int (Nat × List Nat) :=
  if bs.length < 8 then .error 11 else .ok ((bs.take 8).foldl (fun x c => x * 256 + c) 0, bs.drop 8)

theorem long_join (x c : Nat) (hx : x < 72057594037927936) (hc : c < 256) : bits .or .u64 (IntKind.u64.wrap ((x : Int) * 256)) (c : Int) = ((x * 256 + c : Nat) : Int) := by
  have e : IntKind.u64.wrap ((x : Int) * 256) = ((x * 256 : Nat) : Int) := by rw [wrap_u64']; omega
  rw [e, u64_or_nat (x * 256) c (by omega) (by omega), nat_join 8 (x * 256) c (by omega) (by simpa using hc)]

theorem fold_lt : ∀ (l : List Nat) (x : Nat), (∀ c ∈ l, c < 256) → l.foldl (fun x c => x * 256 + c) x < (x + 1) * 256 ^ l.length
  | [], x, _ => by simp
  | c :: l, x, h => by
    have h1 := fold_lt l (x * 256 + c) (fun d hd => h d (List.mem_cons_of_mem _ hd))
    have h2 := h c (List.mem_cons_self ..)
    rw [List.foldl_cons, List.length_cons, Nat.pow_succ]
    have h3 : (x * 256 + c + 1) * 256 ^ l.length ≤ (x + 1) * 256 * 256 ^ l.length := Nat.mul_le_mul_right _ (by omega)
    rw [Nat.mul_comm (256 ^ l.length) 256, ← Nat.mul_assoc]
    omega
theorem rLong_lt {bs : List Nat} {x : Nat} {r : List Nat} (h8 : ∀ c ∈ bs, c < 256) (h : rLong bs = .ok (x, r)) : x < 18446744073709551616 := by
  unfold rLong at h
  split at h
  · cases h
  · rename_i hl
    cases h
    have := fold_lt (bs.take 8) 0 (fun c hc => h8 c (List.mem_of_mem_take hc))
    rw [List.length_take, Nat.min_eq_left (by omega)] at this
    simpa using this

def rLongW (most : Nat) (bs : List Nat) : Except Int (Nat × List Nat) :=
  match rLong bs with
  | .error e => .error e
  | .ok (x, r) => if most < x then .error 10 else .ok (x, r)

end Go.Proofs.YtoeklnmmnmmjeaaGreat.code
