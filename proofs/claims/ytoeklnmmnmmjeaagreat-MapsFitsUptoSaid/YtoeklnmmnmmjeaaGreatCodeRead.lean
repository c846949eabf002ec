/- The reader takes a packed number. -/
import Derived.Test.YtoeklnmmnmmjeaaGreatRows
import Derived.Test.YtoeklnmmnmmjeaaGreatCodeTake
import Derived.LoopN
namespace Go.Proofs.YtoeklnmmnmmjeaaGreat.code
open Go.RowKit
open Go.Proofs.YtoeklnmmnmmjeaaGreat.kit Go.Proofs.YtoeklnmmnmmjeaaGreat.cm
set_option linter.unusedVariables false

theorem andNot128' (c : Nat) (hc : c < 256) : bits .andNot .u8 (c : Int) 128 = ((c % 128 : Nat) : Int) := by
  rw [show (128 : Int) = ((128 : Nat) : Int) from rfl, u8_andNot_nat c 128 hc (by omega)]
  have : ∀ c : Fin 256, c.val &&& (255 - 128) = c.val % 128 := by decide +kernel
  rw [this ⟨c, hc⟩]

theorem or_shift (x d i : Nat) (hx : x < 128 ^ i) (hd : d < 128) (hi : i ≤ 8) : bits .or .u64 (x : Int) (IntKind.u64.wrap (IntKind.u64.wrap (d : Int) * 2 ^ (7 * i))) = ((x + d * 128 ^ i : Nat) : Int) := by
  have hp : (2 : Nat) ^ (7 * i) = 128 ^ i := by rw [Nat.pow_mul]
  have h8 : 128 ^ i ≤ 128 ^ 8 := Nat.pow_le_pow_right (by omega) hi
  have hb : d * 128 ^ i < 9223372036854775808 := by
    have h1 : d * 128 ^ i ≤ 127 * 128 ^ 8 := Nat.mul_le_mul (by omega) h8
    have h2 : (127 : Nat) * 128 ^ 8 < 9223372036854775808 := by decide
    omega
  have h88 : (128 : Nat) ^ 8 = 72057594037927936 := by decide
  have hx64 : x < 18446744073709551616 := by omega
  have e1 : IntKind.u64.wrap (d : Int) = (d : Int) := by rw [wrap_u64']; omega
  have e2 : (d : Int) * 2 ^ (7 * i) = ((d * 128 ^ i : Nat) : Int) := by rw [← hp]; push_cast; rfl
  have e3 : IntKind.u64.wrap ((d * 128 ^ i : Nat) : Int) = ((d * 128 ^ i : Nat) : Int) := by rw [wrap_u64']; omega
  rw [e1, e2, e3, u64_or_nat x (d * 128 ^ i) hx64 (by omega), Nat.or_comm, nat_join (7 * i) (d * 128 ^ i) x (by rw [hp]; exact Nat.mul_mod_left _ _) (by rw [hp]; exact hx), Nat.add_comm]

/-- A number's bytes from place i on, x being what those ahead of it made: k of them may say that others follow. -/
def numG : Nat → Nat → Nat → List Nat → Except Int (Nat × List Nat)
  | _, _, _, [] => .error 11
  | 0, _, x, c :: r => if c = 1 then .ok (x + 9223372036854775808, r) else .error 10
  | k + 1, i, x, c :: r => if c = 0 ∧ 0 < i then .error 10 else if c < 128 then .ok (x + c * 128 ^ i, r) else numG k (i + 1) (x + (c - 128) * 128 ^ i) r
def rNum (bs : List Nat) : Except Int (Nat × List Nat) := numG 9 0 0 bs

set_option maxHeartbeats 4000000 in
set_option maxRecDepth 100000 in
theorem number_any {L : Nat} (rb : Nat) (bs : List Nat) (W : World) (h : Rest L W rb bs) :
    Calls Tryz.prog 184 #[.pointer (some ⟨rb, 0, none⟩)] W (RdP L (fun x : Nat => .int .u64 (x : Int)) 0 W rb (rNum bs)) := by
  have HB := Lib.hid h.1; have HR := Lib.hid h
  clear h
  go_enter Tryz.func184, Tryz.ntmps184
  go_wp2_with fail
  go_loopw [4, 12] (fun vx vi wr => ∃ (i x : Nat) (r : List Nat), i ≤ 9 ∧ x < 128 ^ i ∧ vx = .int .u64 x ∧ vi = .int .i64 i ∧ Rest L wr rb r ∧ (∀ c ∈ r, c < 256) ∧ numG (9 - i) i x r = rNum bs ∧ W.grownBy wr (some rb)) (fun _ i _ => 9 - (intOf i).toNat)
  case atStart => exact ⟨0, 0, bs, by omega, by omega, rfl, rfl, HR.out, HB.out, rfl, World.grownBy.refl _ _⟩
  case round =>
    obtain ⟨i, x, r, hi, hx, rfl, rfl, hr, hc, hG, hg⟩ := hrel
    have HX := Lib.hid hx; have HRr := Lib.hid hr; have HCc := Lib.hid hc; have HGg := Lib.hid hG; have HGr := Lib.hid hg
    have H1 := Lib.hid (one_any rb r wr hr)
    clear hx hr hc hG hg HR HB
    by_cases hlt : i < 9
    · have hlt' : (i : Int) < 9 := by omega
      cases r with
      | nil =>
        go_wp2_with (go_at_call 219; refine H1.out.mono ?_; rintro e W1 ⟨rfl, _, hg1⟩; have HG1 := Lib.hid hg1; clear hg1)
        go_ret2
        have e : rNum bs = .error 11 := by rw [← HGg.out]; cases (9 - i) <;> rfl
        rw [e]
        exact ⟨rfl, by decide, Lib.grownBy_trans HGr.out HG1.out⟩
      | cons c r =>
        have hc : c < 256 := HCc.out c (List.mem_cons_self ..)
        obtain ⟨d, hd⟩ : ∃ d : Nat, d = c % 128 := ⟨_, rfl⟩
        have e1 : True → bits .andNot .u8 (c : Int) 128 = (d : Int) := fun _ => by rw [hd]; exact andNot128' c hc
        obtain ⟨y, hy⟩ : ∃ y : Nat, y = x + d * 128 ^ i := ⟨_, rfl⟩
        have e2 : True → bits .or .u64 (x : Int) (IntKind.u64.wrap (IntKind.u64.wrap (d : Int) * 2 ^ (7 * i))) = (y : Int) := fun _ => by rw [hy]; exact or_shift x d i HX.out (by omega) (by omega)
        have HD := Lib.hid hd; have HY := Lib.hid hy
        clear hd hy
        by_cases h0 : c = 0 ∧ 0 < i
        · obtain ⟨rfl, hi0⟩ := h0
          have hi0' : (0 : Int) < i := by omega
          go_wp2_with (go_at_call 219; refine H1.out.mono ?_; rintro e W1 ⟨rfl, hr1, hg1⟩; have HG1 := Lib.hid hg1; clear hg1 hr1)
          go_ret2
          have e : rNum bs = .error 10 := by
            rw [← HGg.out, show 9 - i = (8 - i) + 1 by omega, numG, if_pos ⟨rfl, hi0⟩]
          rw [e]
          exact ⟨rfl, by decide, Lib.grownBy_trans HGr.out HG1.out⟩
        · by_cases h128 : c < 128
          · have h128' : (c : Int) < 128 := by omega
            by_cases hc0 : c = 0
            · subst hc0
              have hi0 : i = 0 := by omega
              subst hi0
              obtain rfl : x = 0 := by have := HX.out; omega
              obtain rfl : d = 0 := HD.out
              go_wp2_with (go_at_call 219; refine H1.out.mono ?_; rintro e W1 ⟨rfl, hr1, hg1⟩; have HG1 := Lib.hid hg1; have HR1 := Lib.hid hr1; clear hg1 hr1)
              go_ret2
              have e : rNum bs = .ok (0, r) := by rw [← HGg.out]; rfl
              rw [e]
              exact ⟨by rfl, HR1.out, Lib.grownBy_trans HGr.out HG1.out⟩
            · have hc0' : ¬ (c : Int) = 0 := by omega
              have hc0'' : True → ((c : Int) == 0) = false := fun _ => by simp; omega
              go_wp2_with (go_at_call 219; refine H1.out.mono ?_; rintro e W1 ⟨rfl, hr1, hg1⟩; have HG1 := Lib.hid hg1; have HR1 := Lib.hid hr1; clear hg1 hr1)
              go_ret2
              have e : rNum bs = .ok (y, r) := by
                rw [← HGg.out, show 9 - i = (8 - i) + 1 by omega, numG, if_neg h0, if_pos h128, HY.out, HD.out, Nat.mod_eq_of_lt h128]
              rw [e]
              exact ⟨rfl, HR1.out, Lib.grownBy_trans HGr.out HG1.out⟩
          · have h128' : ¬ (c : Int) < 128 := by omega
            have hc0'' : True → ((c : Int) == 0) = false := fun _ => by simp; omega
            go_wp2_with (go_at_call 219; refine H1.out.mono ?_; rintro e W1 ⟨rfl, hr1, hg1⟩; have HG1 := Lib.hid hg1; have HR1 := Lib.hid hr1; clear hg1 hr1)
            go_roundw
            case rel =>
              have e : numG (9 - (i + 1)) (i + 1) y r = rNum bs := by
                rw [← HGg.out, show 9 - i = (9 - (i + 1)) + 1 by omega, numG, if_neg h0, if_neg h128, HY.out, HD.out, show c % 128 = c - 128 by omega]
              have hy : y < 128 ^ (i + 1) := by
                have h1 := HX.out
                have h2 : d ≤ 127 := by have := HD.out; omega
                have h3 : d * 128 ^ i ≤ 127 * 128 ^ i := Nat.mul_le_mul_right _ h2
                rw [HY.out, Nat.pow_succ]; omega
              exact ⟨i + 1, y, r, by omega, hy, rfl, by go_num, HR1.out, fun c' h' => HCc.out c' (List.mem_cons_of_mem _ h'), e, Lib.grownBy_trans HGr.out HG1.out⟩
            case measure => simp [intOf]; omega
    · obtain rfl : i = 9 := by omega
      have hx63 : x < 9223372036854775808 := by have := HX.out; simpa using this
      have e2 : True → bits .or .u64 (x : Int) 9223372036854775808 = ((x + 9223372036854775808 : Nat) : Int) := fun _ => by
        have h1 := u64_or_nat x 9223372036854775808 (by omega) (by omega)
        rw [Nat.or_comm, nat_join 63 9223372036854775808 x (by decide) (by simpa using hx63), Nat.add_comm] at h1
        exact h1
      obtain ⟨y, hy⟩ : ∃ y : Nat, y = x + 9223372036854775808 := ⟨_, rfl⟩
      rw [← hy] at e2
      have HY := Lib.hid hy
      clear hy hx63
      cases r with
      | nil =>
        go_wp2_with (go_at_call 219; refine H1.out.mono ?_; rintro e W1 ⟨rfl, _, hg1⟩; have HG1 := Lib.hid hg1; clear hg1)
        go_ret2
        have e : rNum bs = .error 11 := by rw [← HGg.out]; rfl
        rw [e]
        exact ⟨rfl, by decide, Lib.grownBy_trans HGr.out HG1.out⟩
      | cons c r =>
        by_cases hc1 : c = 1
        · subst hc1
          go_wp2_with (go_at_call 219; refine H1.out.mono ?_; rintro e W1 ⟨rfl, hr1, hg1⟩; have HG1 := Lib.hid hg1; have HR1 := Lib.hid hr1; clear hg1 hr1)
          go_ret2
          have e : rNum bs = .ok (y, r) := by rw [← HGg.out, HY.out]; rfl
          rw [e]
          exact ⟨rfl, HR1.out, Lib.grownBy_trans HGr.out HG1.out⟩
        · have hc1' : True → ((c : Int) == 1) = false := fun _ => by simp; omega
          have hc1'' : ¬ (c : Int) = 1 := by omega
          go_wp2_with (go_at_call 219; refine H1.out.mono ?_; rintro e W1 ⟨rfl, hr1, hg1⟩; have HG1 := Lib.hid hg1; have HR1 := Lib.hid hr1; clear hg1 hr1)
          go_ret2
          have e : rNum bs = .error 10 := by rw [← HGg.out, show 9 - 9 = 0 from rfl, numG, if_neg hc1]
          rw [e]
          exact ⟨rfl, by decide, Lib.grownBy_trans HGr.out HG1.out⟩

def rCount (bs : List Nat) : Except Int (Nat × List Nat) :=
  match rNum bs with
  | .error e => .error e
  | .ok (x, r) => if 9223372036854775807 < x then .error 10 else .ok (x, r)

set_option maxHeartbeats 4000000 in
set_option maxRecDepth 100000 in
theorem count_any {L : Nat} (rb : Nat) (bs : List Nat) (W : World) (h : Rest L W rb bs) :
    Calls Tryz.prog 183 #[.pointer (some ⟨rb, 0, none⟩)] W (RdP L (fun x : Nat => .int .i64 (x : Int)) 0 W rb (rCount bs)) := by
  have H := Lib.hid (number_any rb bs W h)
  clear h
  go_enter Tryz.func183, Tryz.ntmps183
  go_wp2_with fail
  cases hR : rNum bs with
  | error er =>
    refine H.out.mono ?_
    rw [hR]
    rintro e W1 ⟨rfl, hne, hg⟩
    have hne' : True → (er != 0) = true := fun _ => by simpa using hne
    have HG := Lib.hid hg; have HNE := Lib.hid hne; have HE := Lib.hid (show rCount bs = .error er by rw [rCount, hR])
    clear hg hR hne H
    go_wp2
    go_ret2
    rw [HE.out]
    exact ⟨rfl, HNE.out, HG.out⟩
  | ok p =>
    obtain ⟨x, r⟩ := p
    refine H.out.mono ?_
    rw [hR]
    rintro e W1 ⟨rfl, hr, hg⟩
    have HG := Lib.hid hg; have HRr := Lib.hid hr
    have hwi := Lib.hid (within_any x 9223372036854775807 (by omega) W1)
    have HE := Lib.hid (show rCount bs = if 9223372036854775807 < x then .error 10 else .ok (x, r) by rw [rCount, hR])
    clear hg hR hr H
    by_cases hlt : 9223372036854775807 < x
    · go_wp2_with (go_at_call 218; refine hwi.out.mono ?_; rw [rWithin, if_pos hlt]; rintro e w' ⟨rfl, rfl⟩)
      go_ret2
      rw [HE.out, if_pos hlt]
      exact ⟨rfl, by decide, HG.out⟩
    · go_wp2_with (go_at_call 218; refine hwi.out.mono ?_; rw [rWithin, if_neg hlt]; rintro e w' ⟨rfl, rfl⟩)
      go_ret2
      rw [HE.out, if_neg hlt]
      exact ⟨rfl, HRr.out, HG.out⟩

def rText (bs : List Nat) : Except Int (List Nat × List Nat) :=
  match rCount bs with
  | .error e => .error e
  | .ok (n, r) => if r.length < n then .error 11 else .ok (r.take n, r.drop n)

/-- A text of bytes. -/
def tx (l : List Nat) : ByteArray := strOfNums (l.map fun n : Nat => (n : Int))

set_option maxHeartbeats 4000000 in
set_option maxRecDepth 100000 in
theorem text_any {L : Nat} (rb : Nat) (bs : List Nat) (W : World) (h : Rest L W rb bs) :
    Calls Tryz.prog 187 #[.pointer (some ⟨rb, 0, none⟩)] W (RdP L (fun l : List Nat => .string (tx l)) [] W rb (rText bs)) := by
  have H := Lib.hid (count_any rb bs W h)
  clear h
  go_enter Tryz.func187, Tryz.ntmps187
  go_wp2_with fail
  cases hR : rCount bs with
  | error er =>
    refine H.out.mono ?_
    rw [hR]
    rintro e W1 ⟨rfl, hne, hg⟩
    have hne' : True → (er != 0) = true := fun _ => by simpa using hne
    have HG := Lib.hid hg; have HNE := Lib.hid hne; have HE := Lib.hid (show rText bs = .error er by rw [rText, hR])
    clear hg hR hne H
    go_wp2
    go_ret2
    rw [HE.out]
    exact ⟨rfl, HNE.out, HG.out⟩
  | ok p =>
    obtain ⟨n, r⟩ := p
    have hn : n ≤ 9223372036854775807 := by
      unfold rCount at hR
      split at hR
      · cases hR
      · split at hR
        · cases hR
        · cases hR; omega
    refine H.out.mono ?_
    rw [hR]
    rintro e W1 ⟨rfl, hr, hg⟩
    have HT := Lib.hid (take_any rb r n hn W1 hr)
    have HE := Lib.hid (show rText bs = if r.length < n then .error 11 else .ok (r.take n, r.drop n) by rw [rText, hR])
    have HG := Lib.hid hg; have HRr := Lib.hid hr
    clear hg hR hr H
    by_cases hlt : r.length < n
    · have hcv : ∀ w, (convert 79 9 (.slice none 0 0)).run Tryz.prog w = .ok (.string (tx [])) w := fun w => conv_bytes (P := Tryz.prog) 79 5 9 Tryz.underlying79 Tryz.underlying5 Tryz.underlying9 (SlI.nil w .u8)
      have HL := Lib.hid hlt; clear hlt hn
      go_wp2_with (go_at_call 220; refine HT.out.mono ?_; rintro e w' (⟨_, rfl, rfl⟩ | ⟨hh, _⟩); rotate_left; exact absurd HL.out (Nat.not_lt.2 hh))
      go_ret2
      rw [HE.out, if_pos HL.out]
      exact ⟨rfl, by decide, HG.out⟩
    · have HL := Lib.hid hlt; clear hlt hn
      go_wp2_with (go_at_call 220; refine HT.out.mono ?_; rintro e w' (⟨hh, _, _⟩ | ⟨_, v, rfl, hs, hr2, hg2⟩); exact absurd hh HL.out; have hcv : (convert 79 9 v).run Tryz.prog w' = .ok (.string (tx (r.take n))) w' := conv_bytes (P := Tryz.prog) 79 5 9 Tryz.underlying79 Tryz.underlying5 Tryz.underlying9 hs.toI; have HR2 := Lib.hid hr2; have HG2 := Lib.hid hg2; clear hs hr2 hg2)
      go_ret2
      rw [HE.out, if_neg HL.out]
      exact ⟨rfl, HR2.out, Lib.grownBy_trans HG.out HG2.out⟩

end Go.Proofs.YtoeklnmmnmmjeaaGreat.code
