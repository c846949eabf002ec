/- What no call takes back: the mathematics. -/
import Derived.Test.YtoeklnmmnmmjeaaRows
import Derived.Test.YtoeklnmmnmmjeaaAccLrnM
namespace Go.Proofs.Ytoeklnmmnmmjeaa.crush
open Go.RowKit
open Go.Proofs.Ytoeklnmmnmmjeaa.kit Go.Proofs.Ytoeklnmmnmmjeaa.own
set_option linter.unusedVariables false
set_option linter.unusedSimpArgs false

theorem laterB_no {r m r' m' : Int} : laterB r m r' m' = false ↔ r < r' ∨ (r = r' ∧ m ≤ m') := by
  unfold laterB
  simp only [Bool.or_eq_false_iff, Bool.and_eq_false_iff, decide_eq_false_iff_not]
  omega
theorem laterB_self (r m : Int) : laterB r m r m = false := laterB_no.2 (.inr ⟨rfl, Int.le_refl _⟩)
theorem laterB_trans {r m r' m' r'' m'' : Int} (h1 : laterB r m r' m' = false) (h2 : laterB r' m' r'' m'' = false) : laterB r m r'' m'' = false := by
  rw [laterB_no] at h1 h2 ⊢; omega
structure Keeps (a b : AccV) : Prop where
  ok : okA b = true
  pr : laterB a.pr a.pm b.pr b.pm = false
  le : a.com.length ≤ b.com.length
  com : b.com.take a.com.length = a.com
  stay : a.has = true → b.com.length = a.com.length → b.has = true ∧ laterB a.ar a.am b.ar b.am = false
theorem okA_iff (a : AccV) : okA a = true ↔ okPr a.pr a.pm = true ∧ okAt a = true ∧ okCom a.com = true := by
  unfold okA; simp
theorem okCom_iff (l : List ByteArray) : okCom l = true ↔ l.length ≤ 4096 ∧ ∀ x ∈ l, okTxt x = true := by
  unfold okCom; simp
theorem okAt_has {a : AccV} (h : a.has = true) : okAt a = true ↔ okBal a.ar a.am = true ∧ laterB a.ar a.am a.pr a.pm = false ∧ okTxt a.val = true := by
  unfold okAt; rw [if_pos h]; simp
theorem okAt_not {a : AccV} (h : a.has = false) : okAt a = true ↔ a.ar = 0 ∧ a.am = 0 ∧ a.val.size = 0 := by
  unfold okAt; rw [if_neg (by rw [h]; simp)]; simp
theorem keeps_refl {a : AccV} (h : okA a = true) : Keeps a a := ⟨h, laterB_self _ _, Nat.le_refl _, List.take_length, fun h1 _ => ⟨h1, laterB_self _ _⟩⟩
theorem prepOk_iff {a : AccV} {b : BalV} : prepOk a b = true ↔ okBal b.r b.m = true ∧ laterB a.pr a.pm b.r b.m = false := by
  unfold prepOk; simp
theorem prep_keeps {a : AccV} (h : okA a = true) (b : BalV) : Keeps a (prepE a b) := by
  unfold prepE
  cases hp : prepOk a b with
  | false => exact keeps_refl h
  | true =>
    obtain ⟨h1, h2⟩ := prepOk_iff.1 hp
    obtain ⟨g1, g2, g3⟩ := (okA_iff a).1 h
    simp only [if_true]
    refine ⟨(okA_iff _).2 ⟨?_, ?_, g3⟩, h2, Nat.le_refl _, List.take_length, fun h1 _ => ⟨h1, laterB_self _ _⟩⟩
    · unfold okPr; simp [h1]
    · by_cases hh : a.has = true
      · obtain ⟨k1, k2, k3⟩ := (okAt_has hh).1 g2
        exact (okAt_has (a := { a with pr := b.r, pm := b.m }) hh).2 ⟨k1, laterB_trans k2 h2, k3⟩
      · have hh := Bool.eq_false_iff.2 hh
        exact (okAt_not (a := { a with pr := b.r, pm := b.m }) hh).2 ((okAt_not hh).1 g2)
theorem acc_keeps {a : AccV} (h : okA a = true) (b : BalV) (n : Int) (t : ByteArray) : Keeps a (accE a b n t) := by
  rcases acc_cases a b n t with ⟨-, e, -⟩ | ⟨-, -, e, -⟩ | ⟨-, -, -, e, -⟩ | ⟨-, -, -, -, e, -⟩ | ⟨-, -, -, -, -, e, -⟩ | ⟨ht, hp, -, -, -, e, -⟩
  · rw [e]; exact keeps_refl h
  · rw [e]; exact prep_keeps h b
  · rw [e]; exact prep_keeps h b
  · rw [e]; exact prep_keeps h b
  · rw [e]; exact prep_keeps h b
  · rw [e]
    obtain ⟨h1, h2⟩ := prepOk_iff.1 hp
    obtain ⟨g1, g2, g3⟩ := (okA_iff a).1 h
    have hpe : prepE a b = { a with pr := b.r, pm := b.m } := by unfold prepE; rw [if_pos hp]
    rw [hpe]
    refine ⟨(okA_iff _).2 ⟨?_, (okAt_has rfl).2 ⟨h1, laterB_self _ _, ht⟩, g3⟩, h2, Nat.le_refl _, List.take_length, fun hh _ => ⟨rfl, ?_⟩⟩
    · unfold okPr; simp [h1]
    · exact laterB_trans ((okAt_has hh).1 g2).2.1 h2
theorem taken_ok : ∀ (l : List ByteArray) (n : Nat), ∀ x ∈ taken l n, okTxt x = true
  | [], n => by simp [taken]
  | y :: l, n => by
    rw [taken]
    split
    · rename_i h
      intro x hx
      rcases List.mem_cons.1 hx with rfl | hx
      · exact h.1
      · exact taken_ok l (n - 1) x hx
    · simp
theorem learn_keeps {a : AccV} (h : okA a = true) (f : Int) (l : List ByteArray) : Keeps a (learnE a f l) := by
  unfold learnE
  by_cases hn : learnL a f l = []
  · rw [if_pos hn]; exact keeps_refl h
  · rw [if_neg hn]
    obtain ⟨g1, g2, g3⟩ := (okA_iff a).1 h
    obtain ⟨k1, k2⟩ := (okCom_iff _).1 g3
    have hT : (learnL a f l).length ≤ 4096 - a.com.length ∧ ∀ x ∈ learnL a f l, okTxt x = true := by
      unfold learnL
      split
      · simp
      · exact ⟨taken_len _ _, taken_ok _ _⟩
    refine ⟨(okA_iff _).2 ⟨g1, (okAt_not rfl).2 ⟨rfl, rfl, rfl⟩, (okCom_iff _).2 ⟨?_, ?_⟩⟩, laterB_self _ _, ?_, ?_, fun _ he => ?_⟩
    · rw [List.length_append]; omega
    · intro x hx
      rcases List.mem_append.1 hx with hx | hx
      · exact k2 x hx
      · exact hT.2 x hx
    · rw [List.length_append]; omega
    · simp
    · rw [List.length_append] at he
      exact absurd (List.eq_nil_of_length_eq_zero (by omega)) hn

/-- A call. -/
structure ActV where
  kind : Int
  r : Int
  m : Int
  ver : Int
  val : ByteArray
  sl : Value
  vals : List ByteArray
def ac (x : ActV) : List Value := [.int .i64 x.kind, .int .i64 x.r, .int .i64 x.m, .int .i64 x.ver, .string x.val, x.sl]
theorem ac_len (x : ActV) : (ac x).length = 6 := rfl
/-- What a call comes with, in a world. -/
def ActV.Ok (W : World) (x : ActV) : Prop := I64 x.ver ∧ Sl tx 1 W x.sl x.vals ∧ ∃ p c, x.sl = .slice p x.vals.length c ∧ x.vals.length ≤ c
def stepA (a : AccV) (x : ActV) : AccV := if x.kind = 1 then prepE a ⟨x.r, x.m⟩ else if x.kind = 2 then accE a ⟨x.r, x.m⟩ x.ver x.val else if x.kind = 3 then learnE a x.ver x.vals else a
theorem step_keeps {a : AccV} (h : okA a = true) (x : ActV) : Keeps a (stepA a x) := by
  unfold stepA
  split
  · exact prep_keeps h _
  · split
    · exact acc_keeps h _ _ _
    · split
      · exact learn_keeps h _ _
      · exact keeps_refl h
end Go.Proofs.Ytoeklnmmnmmjeaa.crush
