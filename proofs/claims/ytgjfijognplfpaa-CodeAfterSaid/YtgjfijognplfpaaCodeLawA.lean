/- The law CodeAfter: for every two texts it returns true and leaves its arguments as they were. Conditions: none. -/
import Derived.Test.YtgjfijognplfpaaRows
import Derived.Test.YtgjfijognplfpaaCodeAwake
import Derived.Test.YtgjfijognplfpaaLift
import Derived.Lib.Strings
import Derived.Laws.Cover1
namespace Go.Proofs.Ytgjfijognplfpaa.lawsA
open Go.ChangeShapes Go.WideShapes Go.ChangeAt Go.RowKit
open Go.Proofs.Ytgjfijognplfpaa.kit Go.Proofs.Ytgjfijognplfpaa.cm Go.Proofs.Ytgjfijognplfpaa.code
open Go.WideMaps Go.WideElems
open Go.ChangeMaps (open_string shut_string)
set_option linter.unusedVariables false

theorem own : ownKnob Try.prog.godebug = none := by kernel_rfl
theorem laidOut : laidOutB Try.prog = true := by kernel_rfl

/-- The least text behind all that begin with one. -/
def aft : List UInt8 → Option (List UInt8)
  | [] => none
  | x :: s => match aft s with
    | some a => some (x :: a)
    | none => if x = 255 then none else some [x + 1]

/-- t begins with s. -/
def beg : List UInt8 → List UInt8 → Bool
  | [], _ => true
  | _ :: _, [] => false
  | x :: s, y :: t => x == y && beg s t

theorem succ_lt {x y : UInt8} (hx : x ≠ 255) : (y < x + 1) ↔ (y < x ∨ y = x) := by
  have h1 : x.toNat ≠ 255 := fun h => hx (UInt8.toNat.inj h)
  have h2 := UInt8.toNat_lt x
  rw [UInt8.lt_iff_toNat_lt, UInt8.lt_iff_toNat_lt, UInt8.toNat_add, ← UInt8.toNat_inj]
  have h3 : (1 : UInt8).toNat = 1 := rfl
  rw [h3]
  omega

theorem beg_iff : ∀ (s t : List UInt8), beg s t = (!(Op.bytesLess t s) && (match aft s with
    | none => true
    | some a => Op.bytesLess t a))
  | [], t => by cases t <;> simp [beg, aft, Op.bytesLess]
  | x :: s, [] => by simp [beg, Op.bytesLess]
  | x :: s, y :: t => by
    have ih := beg_iff s t
    rw [beg, Op.bytesLess, aft]
    by_cases hxy : y = x
    · subst hxy
      have hlt : ¬ y < y := by rw [UInt8.lt_iff_toNat_lt]; omega
      cases hs : aft s with
      | some a =>
        rw [hs] at ih
        simp only [Op.bytesLess]
        simp [hlt, ih]
      | none =>
        rw [hs] at ih
        by_cases h255 : y = 255
        · subst h255
          simp [ih]
        · have h1 := (succ_lt (y := y) h255).2 (.inr rfl)
          simp only [h255, if_false, Op.bytesLess]
          simp [hlt, ih, h1]
    · have hne : x.toNat ≠ y.toNat := fun h => hxy (UInt8.toNat.inj h.symm)
      have b1 : (x == y) = false := beq_false_of_ne (fun h => hxy h.symm)
      have b2 : (y == x) = false := beq_false_of_ne hxy
      by_cases hlt : y < x
      · simp [hlt, b1]
      · have hgt : ¬ y < x := hlt
        cases hs : aft s with
        | some a =>
          simp only [Op.bytesLess]
          simp [hlt, b1, b2]
        | none =>
          by_cases h255 : x = 255
          · subst h255
            exfalso
            rw [UInt8.lt_iff_toNat_lt] at hlt
            have := UInt8.toNat_lt y
            have h5 : (255 : UInt8).toNat = 255 := rfl
            rw [h5] at hlt hne
            omega
          · have h1 : ¬ y < x + 1 := fun h => by
              rcases (succ_lt h255).1 h with h | h
              · exact hlt h
              · exact hxy h
            simp only [h255, if_false, Op.bytesLess]
            simp [hlt, b1, b2, h1]

theorem aft_append : ∀ (A B : List UInt8), aft (A ++ B) = match aft B with
    | some b => some (A ++ b)
    | none => aft A
  | [], B => by cases h : aft B <;> simp [aft, h]
  | x :: A, B => by
    rw [List.cons_append, aft, aft_append A B]
    cases h : aft B with
    | some b => rfl
    | none => rfl

theorem strip_aft (s : ByteArray) : ∀ n, n ≤ s.size → (match strip s n with
    | 0 => aft (s.data.toList.take n) = none
    | k + 1 => ∃ h : k < s.size, aft (s.data.toList.take n) = some (s.data.toList.take k ++ [s[k] + 1]))
  | 0, _ => by simp [strip, aft]
  | n + 1, hn => by
    have ih := strip_aft s n (by omega)
    have hlt : n < s.size := by omega
    have hl : n < s.data.toList.length := by simpa using hlt
    have ht : s.data.toList.take (n + 1) = s.data.toList.take n ++ [s[n]] := by
      rw [List.take_succ_eq_append_getElem hl]; rfl
    rw [strip, dif_pos hlt, ht, aft_append]
    by_cases h255 : s[n].toNat = 255
    · have h : s[n] = 255 := UInt8.toNat.inj h255
      rw [if_pos h255]
      have ha : aft [s[n]] = none := by rw [h]; rfl
      rw [ha]
      exact ih
    · have h : s[n] ≠ 255 := fun e => h255 (by rw [e]; rfl)
      rw [if_neg h255]
      have ha : aft [s[n]] = some [s[n] + 1] := by simp [aft, h]
      rw [ha]
      exact ⟨hlt, rfl⟩

/-- What 'After' says, of the lists of bytes. -/
theorem after_list (s : ByteArray) : (aftB s = false ∧ aft s.data.toList = none) ∨ (aftB s = true ∧ aft s.data.toList = some (aftT s).data.toList) := by
  have h := strip_aft s s.size (Nat.le_refl _)
  have hfull : s.data.toList.take s.size = s.data.toList := List.take_of_length_le (by simp)
  rw [hfull] at h
  unfold aftB aftT
  cases hs : strip s s.size with
  | zero => rw [hs] at h; exact .inl ⟨by simp, h⟩
  | succ k =>
    rw [hs] at h
    obtain ⟨hk, h⟩ := h
    refine .inr ⟨by simp, ?_⟩
    rw [h]
    simp only [hk, dif_pos]
    congr 1
    have h1 : (s.extract 0 k ++ tx [s[k].toNat + 1]).data.toList = (s.extract 0 k).data.toList ++ (tx [s[k].toNat + 1]).data.toList := by simp [ByteArray.data_append]
    rw [h1, tx_list]
    have h2 : (s.extract 0 k).data.toList = s.data.toList.take k := by
      have := Lib.extract_toList s 0 k
      rw [Lib.toList_data] at this
      rw [this]; simp
    rw [h2]
    simp

theorem beg_slice (s t : ByteArray) : (decide (s.size ≤ t.size) && ((t.extract 0 s.size).toList == s.toList)) = beg s.data.toList t.data.toList := by
  have h : ∀ (a b : List UInt8), (decide (a.length ≤ b.length) && (b.take a.length == a)) = beg a b := by
    intro a
    induction a with
    | nil => intro b; simp [beg]
    | cons x a ih =>
      intro b
      cases b with
      | nil => simp [beg]
      | cons y b =>
        rw [beg, ← ih b]
        by_cases hxy : x = y
        · subst hxy; simp
        · have b1 : (x == y) = false := beq_false_of_ne hxy
          have b2 : (y == x) = false := beq_false_of_ne (fun h => hxy h.symm)
          simp [b1, b2]
  rw [← h]
  rw [Lib.extract_toList, Lib.toList_data]
  simp

set_option maxHeartbeats 4000000 in
set_option maxRecDepth 100000 in
theorem walkAfter (s t : ByteArray) (hs : s.size ≤ maxLen) (ht : t.size ≤ maxLen) (w : World) :
    Calls Try.prog 5 #[.string s, .string t] w fun e w' => e = .returned (.bool true) ∧ Below w.heap.size w w' := by
  have H1 := Lib.hid (after_any s hs)
  have H2 := Lib.hid (rafter_any s hs)
  have HL := after_list s
  have HBeg := Lib.hid (beg_slice s t)
  have HIff := Lib.hid (beg_iff s.data.toList t.data.toList)
  unfold maxLen at hs ht
  generalize aftT s = A at HL H1 H2
  generalize aftB s = B at HL H1 H2
  have hkey : (decide (s.size ≤ t.size) && ((t.extract 0 s.size).toList == s.toList)) = (!(Op.bytesLess t.toList s.toList) && (!B || Op.bytesLess t.toList A.toList)) := by
    rw [HBeg.out, HIff.out, Lib.toList_data t, Lib.toList_data s, Lib.toList_data A]
    rcases HL with ⟨rfl, h⟩ | ⟨rfl, h⟩
    · rw [h]; rfl
    · rw [h]; simp
  clear HL HBeg HIff
  have HW := Lib.hid (awake_any)
  go_enter Try.func5, Try.ntmps5
  go_wp2_with fail
  refine (H1.out _).mono ?_
  rintro e w1 ⟨rfl, hb1⟩
  have HB1 := Lib.hid hb1
  clear hb1
  go_wp2_with fail
  refine (H2.out _).mono ?_
  rintro e w2 ⟨rfl, hb2⟩
  have HB2 := Lib.hid (HB1.out.trans (hb2.mono HB1.out.size))
  clear hb2 H1 H2
  by_cases hsz : s.size ≤ t.size
  · have hsz' : (s.size : Int) ≤ t.size := by omega
    rw [decide_eq_true hsz, Bool.true_and] at hkey
    cases hq : ((t.extract 0 s.size).toList == s.toList) <;> cases hl : Op.bytesLess t.toList s.toList <;> cases hm : Op.bytesLess t.toList A.toList <;> cases B <;> rw [hq, hl] at hkey <;> first
      | (rw [hm] at hkey; exact absurd hkey (by decide))
      | (have rq : True → ((t.extract 0 s.size).toList == s.toList) = _ := fun _ => hq
         have rl : True → Op.bytesLess t.toList s.toList = _ := fun _ => hl
         have rm : True → Op.bytesLess t.toList A.toList = _ := fun _ => hm
         clear hkey hq hl hm
         go_wp2_with (go_at_call 14; refine (HW.out _).mono ?_; rintro e w3 ⟨rfl, hb3⟩; have HB3 := Lib.hid hb3; clear hb3)
         go_ret
         exact ⟨rfl, HB2.out.trans (HB3.out.mono HB2.out.size)⟩)
  · have hsz' : ¬ (s.size : Int) ≤ t.size := by omega
    rw [decide_eq_false hsz, Bool.false_and] at hkey
    cases hl : Op.bytesLess t.toList s.toList <;> cases hm : Op.bytesLess t.toList A.toList <;> cases B <;> rw [hl] at hkey <;> first
      | (rw [hm] at hkey; exact absurd hkey (by decide))
      | (have rl : True → Op.bytesLess t.toList s.toList = _ := fun _ => hl
         have rm : True → Op.bytesLess t.toList A.toList = _ := fun _ => hm
         clear hkey hl hm
         go_wp2_with (go_at_call 14; refine (HW.out _).mono ?_; rintro e w3 ⟨rfl, hb3⟩; have HB3 := Lib.hid hb3; clear hb3)
         go_ret
         exact ⟨rfl, HB2.out.trans (HB3.out.mono HB2.out.size)⟩)

set_option maxRecDepth 100000 in
theorem liftedAfter (os : Os) (started : os.Started) (H : Type) (enc : TypeId × Value → H) :
    ReturnsInHanded {} Try.checked os 5 .any (Rows.codeAfterSpec.pre6 enc Try.prog Try.f5 Rows.codeAfterRow.domain false) (Rows.codeAfterSpec.post enc Try.prog Try.f5 false true false false) := by
  refine lift.law (C := Try.checked) own started (by kernel_rfl) Try.func5
    (ChangeSpec.witness6 (enc := enc) (C := Try.checked) false ⟨#[], #[.string ⟨#[]⟩, .string ⟨#[]⟩], []⟩ 8 (by kernel_rfl) (by kernel_rfl) (by kernel_rfl) (by kernel_rfl)) laidOut (by kernel_rfl) 4 Try.underlying4 (by kernel_rfl) rfl ?_ ?_
  · intro ds hd
    match ds, hd with
    | [_, _], _ => rfl
  · intro W base args ds ps hg
    have hA : DataW.TrodAll enc Try.prog W 0 (fun _ => true) true Try.f5.params.toList args.toList ds ps := hg.read
    have hval : ∀ (j : Nat) t v, Try.f5.params[j]? = some t → args[j]? = some v → Value.okWide Try.prog W .any base t v := hg.ok
    rw [Try.params5] at hA hval
    obtain ⟨v0, vs0, d0, ds0, p0, q0, hargs, rfl, rfl, h0, r0⟩ := trodAll_cons hA
    obtain ⟨v1, vs1, d1, ds1, p1, q1, rfl, rfl, rfl, h1, r1⟩ := trodAll_cons r0
    obtain ⟨rfl, rfl, rfl⟩ := trodAll_nil r1
    obtain rfl : args = #[v0, v1] := by cases args; simp_all
    obtain ⟨s, rfl, rfl, rfl, hs⟩ := open_string Try.underlying9 (hval 0 9 v0 rfl rfl) h0
    obtain ⟨t, rfl, rfl, rfl, ht⟩ := open_string Try.underlying9 (hval 1 9 v1 rfl rfl) h1
    exact walkAfter s t hs ht W

theorem after_holds : Rows.CodeAfterSaid :=
  OpenClaim.holds_of_wide 5 Try.f5 rfl rfl rfl rfl rfl rfl rfl ⟨rfl, rfl, rfl, rfl, rfl⟩ rfl rfl rfl rfl rfl (by kernel_rfl) Try.func5 (by kernel_rfl)
    (of_decide_eq_true (by kernel_rfl)) (by unfold Func.isWrapper; first | (rw [if_pos (by decide +kernel)]; kernel_rfl) | (rw [if_neg (by decide +kernel)]; exact ⟨rfl, rfl⟩))
    (fun os started H enc _ => liftedAfter os started H enc)

#print axioms after_holds
end Go.Proofs.Ytgjfijognplfpaa.lawsA
