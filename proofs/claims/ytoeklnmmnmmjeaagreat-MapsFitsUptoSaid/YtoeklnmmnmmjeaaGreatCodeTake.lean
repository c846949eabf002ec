/- The reader: what is left of its bytes; taking some of them. -/
import Derived.Test.YtoeklnmmnmmjeaaGreatRows
import Derived.Test.YtoeklnmmnmmjeaaGreatCodeHeap
import Derived.Test.YtoeklnmmnmmjeaaGreatCodeNum
import Derived.OpenShut
import Derived.WalkSpells
import Derived.Laws.BitsAllLaws
import Derived.Lib.BufferOwn
import Derived.Deep.Cut
namespace Go.Proofs.YtoeklnmmnmmjeaaGreat.code
open Go.RowKit
open Go.Proofs.YtoeklnmmnmmjeaaGreat.kit Go.Proofs.YtoeklnmmnmmjeaaGreat.cm
set_option linter.unusedVariables false

/-- The slice value v reads as the bytes bs, in a block that meets P. -/
def SlB (W : World) (v : Value) (bs : List Nat) (P : Nat → Prop) : Prop :=
  bs.length ≤ 140737488351232 ∧ ∃ (a : Option Addr) (cap : Nat), v = .slice a bs.length cap ∧ bs.length ≤ cap ∧
    (0 < bs.length → ∃ b off, a = some ⟨b, off, none⟩ ∧ P b ∧ b < W.heap.size ∧ ∀ j, j < bs.length → W.cell? ⟨b, off + j, none⟩ = some (.int .u8 (bs.getD j 0 : Nat)))

theorem SlB.imp {W : World} {v : Value} {bs : List Nat} {P Q : Nat → Prop} (h : SlB W v bs P) (hpq : ∀ b, P b → Q b) : SlB W v bs Q := by
  obtain ⟨hl, a, cap, rfl, hle, hc⟩ := h
  refine ⟨hl, a, cap, rfl, hle, fun h0 => ?_⟩
  obtain ⟨b, off, rfl, hP, hlt, hcell⟩ := hc h0
  exact ⟨b, off, rfl, hpq b hP, hlt, hcell⟩

theorem SlB.toI {W : World} {v : Value} {bs : List Nat} {P : Nat → Prop} (h : SlB W v bs P) : SlI W .u8 v bs := by
  obtain ⟨hl, a, cap, rfl, hle, hc⟩ := h
  refine ⟨by omega, a, cap, rfl, fun h0 => ?_⟩
  obtain ⟨b, off, rfl, hP, hlt, hcell⟩ := hc h0
  exact ⟨b, off, rfl, hcell⟩

/-- It reads on where its block is as it was. -/
theorem SlB.keep {W W' : World} {v : Value} {bs : List Nat} {P : Nat → Prop} {row : Option Nat} (h : SlB W v bs P) (hg : W.grownBy W' row) (hne : ∀ b, P b → some b ≠ row) : SlB W' v bs P := by
  obtain ⟨hl, a, cap, rfl, hle, hc⟩ := h
  refine ⟨hl, a, cap, rfl, hle, fun h0 => ?_⟩
  obtain ⟨b, off, rfl, hP, hlt, hcell⟩ := hc h0
  exact ⟨b, off, rfl, hP, Nat.lt_of_lt_of_le hlt hg.size, fun j hj => (World.cell?_of_block (a := ⟨b, _, none⟩) (hg.block b hlt (hne b hP))).trans (hcell j hj)⟩

/-- What the reader at block rb has left. -/
def Rest (L : Nat) (W : World) (rb : Nat) (bs : List Nat) : Prop := (∀ c ∈ bs, c < 256) ∧ ∃ v, Box W rb 183 v ∧ SlB W v bs (fun b => b ≠ rb ∧ b < L)

theorem Rest.grow {L : Nat} {W W' : World} {rb : Nat} {bs : List Nat} (h : Rest L W rb bs) (hb : Below W.heap.size W W') : Rest L W' rb bs := by
  obtain ⟨h8, v, hv, hs⟩ := h
  exact ⟨h8, v, (hb.block rb (box_lt hv)).trans hv, hs.keep (row := none) ⟨hb.os, hb.tape, hb.output, hb.size, fun k hk _ => hb.block k hk⟩ (fun b _ e => by cases e)⟩

/-- What 'take' of n bytes says. -/
def TakeP (L : Nat) (W : World) (rb : Nat) (bs : List Nat) (n : Nat) (e : Ending) (W' : World) : Prop :=
  (bs.length < n ∧ e = .returned (.tuple #[.slice none 0 0, .int .i64 11]) ∧ W' = W) ∨
  (n ≤ bs.length ∧ ∃ v, e = .returned (.tuple #[v, .int .i64 0]) ∧ SlB W' v (bs.take n) (fun b => b ≠ rb ∧ b < L) ∧ Rest L W' rb (bs.drop n) ∧ W.grownBy W' (some rb))

theorem take_ok {L : Nat} {W : World} {rb : Nat} {bs : List Nat} {n : Nat} {a : Option Addr} {cap : Nat} (h8 : ∀ c ∈ bs, c < 256) (hv : Box W rb 183 (.slice a bs.length cap)) (hs : SlB W (.slice a bs.length cap) bs (fun b => b ≠ rb ∧ b < L)) (hn : n ≤ bs.length) {a' : Option Addr}
    (ha : n < bs.length → ∀ b off, a = some ⟨b, off, none⟩ → a' = some ⟨b, off + n, none⟩) :
    TakeP L W rb bs n (.returned (.tuple #[.slice a n cap, .int .i64 0])) (W.setCell ⟨rb, 0, none⟩ (.slice a' (bs.length - n) (cap - n))) := by
  have hg : W.grownBy (W.setCell ⟨rb, 0, none⟩ (.slice a' (bs.length - n) (cap - n))) (some rb) := grownBy_setCell' W rb _
  have hs' := hs.keep hg (fun b hb e => hb.1 (by simpa using e))
  refine .inr ⟨hn, _, rfl, ?_, ⟨fun c hc => h8 c (List.mem_of_mem_drop hc), _, box_set hv _, ?_⟩, hg⟩
  · obtain ⟨hl, a0, cap0, e, hle, hc⟩ := hs'
    cases e
    have e1 : (bs.take n).length = n := by rw [List.length_take]; omega
    refine ⟨by omega, a, cap, by rw [e1], by omega, fun h0 => ?_⟩
    rw [e1] at h0 ⊢
    obtain ⟨b, off, rfl, hP, hlt, hcell⟩ := hc (Nat.lt_of_lt_of_le h0 hn)
    refine ⟨b, off, rfl, hP, hlt, fun j hj => ?_⟩
    rw [hcell j (Nat.lt_of_lt_of_le hj hn)]
    simp [List.getD, hj]
  · obtain ⟨hl, a0, cap0, e, hle, hc⟩ := hs'
    cases e
    have e1 : (bs.drop n).length = bs.length - n := List.length_drop ..
    refine ⟨by omega, a', _, by rw [e1], by omega, fun h0 => ?_⟩
    have hpos : n < bs.length := by omega
    rw [e1]
    obtain ⟨b, off, rfl, hP, hlt, hcell⟩ := hc (Nat.lt_of_le_of_lt (Nat.zero_le _) hpos)
    refine ⟨b, off + n, ha hpos b off rfl, hP, hlt, fun j hj => ?_⟩
    rw [Nat.add_assoc, hcell (n + j) (Nat.lt_sub_iff_add_lt'.mp hj)]
    simp [List.getD, List.getElem?_drop]

set_option maxHeartbeats 4000000 in
set_option maxRecDepth 100000 in
theorem take_any {L : Nat} (rb : Nat) (bs : List Nat) (n : Nat) (hn : n ≤ 9223372036854775807) (W : World) (h : Rest L W rb bs) :
    Calls Tryz.prog 220 #[.pointer (some ⟨rb, 0, none⟩), .int .i64 n] W (TakeP L W rb bs n) := by
  obtain ⟨h8, v, hv, hs⟩ := h
  have H8 := Lib.hid h8
  clear h8
  obtain ⟨hl, a, cap, rfl, hle, hc⟩ := id hs
  have c0 := box_cell hv
  have f0 := box_frozen hv
  have HS := Lib.hid hs; have HV := Lib.hid hv; have HC := Lib.hid hc
  clear hs hv hc
  generalize hL : bs.length = L at hl hle c0
  have HL := Lib.hid hL
  by_cases hlt : L < n
  · have hlt' : (L : Int) < n := by omega
    clear hL
    go_enter Tryz.func220, Tryz.ntmps220
    go_wp2
    go_ret2
    exact .inl ⟨by rw [HL.out]; exact hlt, rfl, rfl⟩
  · have hge : n ≤ L := by omega
    have hge' : (n : Int) ≤ L := by omega
    have hnc : n ≤ cap := by omega
    have hnc' : (n : Int) ≤ cap := by omega
    clear hL hlt
    go_enter Tryz.func220, Tryz.ntmps220
    go_wp2
    all_goals go_ret2
    all_goals (have hL := HL.out; subst hL)
    · have hcn : cap = n := by assumption
      subst hcn
      have := take_ok (a' := a) H8.out HV.out HS.out hge (fun h => by omega)
      rw [Nat.sub_self] at this
      exact this
    · exact take_ok H8.out HV.out HS.out hge (fun h b off e => by subst e; simp [Addr.add])

/-- What a taker says whose answer is R: what was taken and what is left, or z0 and an error. -/
def RdP {α : Type} (L : Nat) (enc : α → Value) (z0 : α) (W : World) (rb : Nat) (R : Except Int (α × List Nat)) (e : Ending) (W' : World) : Prop :=
  match R with
  | .ok (x, r) => e = .returned (.tuple #[enc x, .int .i64 0]) ∧ Rest L W' rb r ∧ W.grownBy W' (some rb)
  | .error er => e = .returned (.tuple #[enc z0, .int .i64 er]) ∧ er ≠ 0 ∧ W.grownBy W' (some rb)

theorem RdP.any {α : Type} {L : Nat} {enc : α → Value} {z0 : α} {W : World} {rb : Nat} {R : Except Int (α × List Nat)} {e : Ending} {W' : World} (h : RdP L enc z0 W rb R e W') :
    ∃ y er, e = .returned (.tuple #[enc y, .int .i64 er]) ∧ W.grownBy W' (some rb) ∧ ((∃ r, R = .ok (y, r) ∧ er = 0 ∧ Rest L W' rb r) ∨ (R = .error er ∧ y = z0 ∧ er ≠ 0)) := by
  cases R with
  | ok p => obtain ⟨x, r⟩ := p; obtain ⟨h1, h2, h3⟩ := h; exact ⟨x, 0, h1, h3, .inl ⟨r, rfl, rfl, h2⟩⟩
  | error er => obtain ⟨h1, h2, h3⟩ := h; exact ⟨z0, er, h1, h3, .inr ⟨rfl, rfl, h2⟩⟩

def rOne : List Nat → Except Int (Nat × List Nat)
  | [] => .error 11
  | c :: r => .ok (c, r)

set_option maxHeartbeats 4000000 in
set_option maxRecDepth 100000 in
theorem one_any {L : Nat} (rb : Nat) (bs : List Nat) (W : World) (h : Rest L W rb bs) :
    Calls Tryz.prog 219 #[.pointer (some ⟨rb, 0, none⟩)] W (RdP L (fun c : Nat => .int .u8 (c : Int)) 0 W rb (rOne bs)) := by
  have H := take_any rb bs 1 (by omega) W h
  go_enter Tryz.func219, Tryz.ntmps219
  cases bs with
  | nil =>
    go_wp2_with fail
    refine H.mono ?_
    rintro e W' (⟨h1, rfl, rfl⟩ | ⟨h1, _⟩)
    · clear H h1 h
      go_wp2
      go_ret2
      exact ⟨rfl, by decide, World.grownBy.refl _ _⟩
    · simp at h1
  | cons c r =>
    go_wp2_with fail
    refine H.mono ?_
    rintro e W' (⟨h1, rfl, rfl⟩ | ⟨h1, v, rfl, hs, hr, hg⟩)
    · simp at h1
    · obtain ⟨hl, a, cap, rfl, hle, hc⟩ := hs
      obtain ⟨b, off, rfl, hP, hlt, hcell⟩ := hc (by simp)
      have h0 := hcell 0 (by simp)
      have h0' : W'.cell? ⟨b, off, none⟩ = some (.int .u8 (c : Nat)) := by simpa using h0
      have HR := Lib.hid hr; have HG := Lib.hid hg
      clear hc hcell hr hg H h h0 hle hl h1
      go_wp2
      go_ret2
      exact ⟨rfl, HR.out, HG.out⟩

/-- A number that may be most at most. -/
def rWithin (x most : Nat) : Except Int Nat := if most < x then .error 10 else .ok x

set_option maxHeartbeats 4000000 in
set_option maxRecDepth 100000 in
theorem within_any (x most : Nat) (hm : most ≤ 9223372036854775807) (w : World) :
    Calls Tryz.prog 218 #[.int .u64 x, .int .u64 most] w fun e w' => w = w' ∧ e = .returned (.tuple (match rWithin x most with
      | .ok y => #[.int .i64 (y : Int), .int .i64 0]
      | .error er => #[.int .i64 0, .int .i64 er])) := by
  unfold rWithin
  by_cases hlt : most < x
  · have hlt' : (most : Int) < x := by omega
    rw [if_pos hlt]
    go_enter Tryz.func218, Tryz.ntmps218
    go_wp2
    go_ret2
    exact ⟨rfl, rfl⟩
  · have hlt' : ¬ (most : Int) < x := by omega
    have hw : True → IntKind.i64.wrap (x : Int) = (x : Int) := fun _ => by simp [IntKind.wrap, IntKind.bits, IntKind.signed]; omega
    have HM := Lib.hid hm; clear hm
    rw [if_neg hlt]
    go_enter Tryz.func218, Tryz.ntmps218
    go_wp2
    go_ret2
    exact ⟨rfl, rfl⟩

theorem i64_xor_m1 (y : Nat) (h : y < 9223372036854775808) : bits .xor .i64 (y : Int) (-1) = -1 - (y : Int) := by
  have e : bits .xor .i64 (y : Int) (-1) = IntKind.i64.wrap ((BitVec.ofInt 64 (y : Int) ^^^ BitVec.ofInt 64 (-1)).toNat : Nat) := rfl
  rw [e, BitVec.toNat_xor, ofInt_u64 y (by omega), show (BitVec.ofInt 64 (-1)).toNat = 18446744073709551615 from by decide, xor_ones y (by omega), IntKind.wrap_i64]
  omega
theorem i64_xor_0 (y : Nat) (h : y < 9223372036854775808) : bits .xor .i64 (y : Int) 0 = (y : Int) := by
  have e : bits .xor .i64 (y : Int) 0 = IntKind.i64.wrap ((BitVec.ofInt 64 (y : Int) ^^^ BitVec.ofInt 64 0).toNat : Nat) := rfl
  rw [e, BitVec.toNat_xor, ofInt_u64 y (by omega), show (BitVec.ofInt 64 0).toNat = 0 from by decide, Nat.xor_zero, IntKind.wrap_i64]
  omega
theorem unzig_eq (x : Nat) (hx : x < 18446744073709551616) : bits BinOp.xor IntKind.i64 ((x : Int) / 2) (wrap64 (-wrap64 (bits BinOp.and IntKind.u64 (x : Int) 1))) = if x % 2 = 0 then ((x / 2 : Nat) : Int) else -1 - ((x / 2 : Nat) : Int) := by
  have ha : bits BinOp.and IntKind.u64 (x : Int) 1 = ((x % 2 : Nat) : Int) := by
    have := u64_and_nat x 1 hx (by omega)
    rw [Nat.and_one_is_mod] at this
    exact this
  rw [ha, show (x : Int) / 2 = ((x / 2 : Nat) : Int) from by omega]
  rcases Nat.mod_two_eq_zero_or_one x with h | h
  · rw [h, if_pos rfl]
    rw [show wrap64 (-wrap64 ((0 : Nat) : Int)) = 0 from by simp [wrap64]]
    exact i64_xor_0 (x / 2) (by omega)
  · rw [h, if_neg (by omega)]
    rw [show wrap64 (-wrap64 ((1 : Nat) : Int)) = -1 from by simp [wrap64]]
    exact i64_xor_m1 (x / 2) (by omega)

/-- 'unfold' of a number. -/
def unzig (x : Nat) : Int := if x % 2 = 0 then (x / 2 : Nat) else -1 - ((x / 2 : Nat) : Int)

set_option maxHeartbeats 4000000 in
set_option maxRecDepth 100000 in
theorem unfold_any (x : Nat) (hx : x < 18446744073709551616) (w : World) : Calls Tryz.prog 185 #[.int .u64 x] w fun e w' => e = .returned (.int .i64 (unzig x)) ∧ w = w' := by
  go_enter Tryz.func185, Tryz.ntmps185
  go_wp2
  go_ret
  exact ⟨ret_int (unzig_eq x hx), rfl⟩

end Go.Proofs.YtoeklnmmnmmjeaaGreat.code
