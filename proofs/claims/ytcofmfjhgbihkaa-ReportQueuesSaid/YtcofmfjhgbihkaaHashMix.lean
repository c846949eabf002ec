/- The walks of the mixes of 32 bits. -/
import Derived.Test.YtcofmfjhgbihkaaRows
import Derived.Test.YtcofmfjhgbihkaaHashLen
import Derived.Test.YtcofmfjhgbihkaaKit
import Derived.OpenShut
import Derived.Laws.BitsAllLaws
import Derived.WalkSpells
namespace Go.Proofs.Ytcofmfjhgbihkaa.hash
open Go.RowKit
open Go.Proofs.Ytcofmfjhgbihkaa.kit
set_option linter.unusedVariables false

def mixB (h b : Nat) : Nat := ((h ^^^ b) * 16777619) % 4294967296
def mixT (h : Nat) (s : List UInt8) : Nat := s.foldl (fun h c => mixB h c.toNat) h
/-- r bytes of x, the lowest first. -/
def mixW : Nat → Nat → Nat → Nat
  | 0, h, _ => h
  | r + 1, h, x => mixW r (mixB h (x % 256)) (x / 256)
def mixL (h : Nat) (l : List Nat) : Nat := l.foldl (fun h x => mixW 4 h x) h
def finA (h : Nat) : Nat := ((h ^^^ h / 65536) * 2246822507) % 4294967296
def finB (a : Nat) : Nat := ((a ^^^ a / 8192) * 3266489909) % 4294967296
def finC (b : Nat) : Nat := b ^^^ b / 65536
def fin32 (h : Nat) : Nat := finC (finB (finA h))

theorem mixB_lt (h b : Nat) : mixB h b < 4294967296 := Nat.mod_lt _ (by decide)
theorem mixW_lt : ∀ r h x, h < 4294967296 → mixW r h x < 4294967296
  | 0, h, x, hh => hh
  | r + 1, h, x, _ => mixW_lt r _ _ (mixB_lt _ _)
theorem mixT_lt : ∀ s h, h < 4294967296 → mixT h s < 4294967296
  | [], h, hh => hh
  | c :: s, h, _ => mixT_lt s _ (mixB_lt _ _)
theorem mixL_lt : ∀ l h, h < 4294967296 → mixL h l < 4294967296
  | [], h, hh => hh
  | c :: s, h, hh => mixL_lt s _ (mixW_lt 4 _ _ hh)

theorem xor_u32 (h b : Nat) (hh : h < 4294967296) (hb : b < 4294967296) : bits BinOp.xor IntKind.u32 (h : Int) (b : Int) = ((h ^^^ b : Nat) : Int) := u32_xor_nat h b hh hb

theorem finA_lt (h : Nat) : finA h < 4294967296 := Nat.mod_lt _ (by decide)
theorem finB_lt (h : Nat) : finB h < 4294967296 := Nat.mod_lt _ (by decide)
theorem stepA (h : Nat) (hh : h < 4294967296) : bits BinOp.xor IntKind.u32 (h : Int) ((h : Int) / 65536) * 2246822507 % 4294967296 = ((finA h : Nat) : Int) := by
  have e := xor_u32 h (h / 65536) hh (by omega)
  simp only [Int.natCast_ediv, Int.cast_ofNat_Int] at e
  rw [e]; unfold finA; simp
theorem stepB (h : Nat) (hh : h < 4294967296) : bits BinOp.xor IntKind.u32 (h : Int) ((h : Int) / 8192) * 3266489909 % 4294967296 = ((finB h : Nat) : Int) := by
  have e := xor_u32 h (h / 8192) hh (by omega)
  simp only [Int.natCast_ediv, Int.cast_ofNat_Int] at e
  rw [e]; unfold finB; simp
theorem stepC (h : Nat) (hh : h < 4294967296) : bits BinOp.xor IntKind.u32 (h : Int) ((h : Int) / 65536) = ((finC h : Nat) : Int) := by
  have e := xor_u32 h (h / 65536) hh (by omega)
  simp only [Int.natCast_ediv, Int.cast_ofNat_Int] at e
  rw [e]; unfold finC; rfl
theorem fin_close (h : Nat) (hh : h < 4294967296) :
    bits BinOp.xor IntKind.u32 (bits BinOp.xor IntKind.u32 (bits BinOp.xor IntKind.u32 (h : Int) ((h : Int) / 65536) * 2246822507 % 4294967296) (bits BinOp.xor IntKind.u32 (h : Int) ((h : Int) / 65536) * 2246822507 % 4294967296 / 8192) * 3266489909 % 4294967296)
      (bits BinOp.xor IntKind.u32 (bits BinOp.xor IntKind.u32 (h : Int) ((h : Int) / 65536) * 2246822507 % 4294967296) (bits BinOp.xor IntKind.u32 (h : Int) ((h : Int) / 65536) * 2246822507 % 4294967296 / 8192) * 3266489909 % 4294967296 / 65536) = ((fin32 h : Nat) : Int) := by
  rw [stepA h hh, stepB _ (finA_lt h), stepC _ (finB_lt _)]
  rfl

/-- Behind k bytes, what is still to be mixed in of the text s, out of h, comes to T. -/
def Txt (s : ByteArray) (T k h : Nat) : Prop := k ≤ s.size ∧ h < 4294967296 ∧ mixT h (s.data.toList.drop k) = T
theorem Txt.step {s : ByteArray} {T k h : Nat} (a : Txt s T k h) (hk : k < s.size) : Txt s T (k + 1) (mixB h s[k].toNat) := by
  refine ⟨by omega, mixB_lt _ _, ?_⟩
  have := a.2.2
  rw [List.drop_eq_getElem_cons (by simpa using hk)] at this
  exact this
theorem Txt.fin {s : ByteArray} {T k h : Nat} (a : Txt s T k h) (hk : ¬ k < s.size) : h = T := by
  have := a.2.2
  rw [List.drop_of_length_le (by simp; omega)] at this
  exact this

/-- Behind k words, what is still to be mixed in of the list, out of h, comes to T. -/
def Lst (ns : List Nat) (T k h : Nat) : Prop := k ≤ ns.length ∧ h < 4294967296 ∧ mixL h (ns.drop k) = T
theorem Lst.step {ns : List Nat} {T k h : Nat} (a : Lst ns T k h) (hk : k < ns.length) : Lst ns T (k + 1) (mixW 4 h (ns.getD k 0)) := by
  refine ⟨by omega, mixW_lt _ _ _ a.2.1, ?_⟩
  have := a.2.2
  rw [drop_getD ns 0 k hk] at this
  exact this
theorem Lst.fin {ns : List Nat} {T k h : Nat} (a : Lst ns T k h) (hk : ¬ k < ns.length) : h = T := by
  have := a.2.2
  rw [List.drop_of_length_le (by omega)] at this
  exact this
/-- Behind j bytes of a word: what is still to come. -/
def Wrd (T j h x : Nat) : Prop := j ≤ 4 ∧ h < 4294967296 ∧ x < 4294967296 ∧ mixW (4 - j) h x = T
theorem Wrd.step {T j h x : Nat} (a : Wrd T j h x) (hj : j < 4) : Wrd T (j + 1) (mixB h (x % 256)) (x / 256) := by
  refine ⟨by omega, mixB_lt _ _, by have := a.2.2.1; omega, ?_⟩
  have := a.2.2.2
  rw [show 4 - j = (4 - (j + 1)) + 1 from by omega] at this
  exact this
theorem Wrd.fin {T j h x : Nat} (a : Wrd T j h x) (hj : ¬ j < 4) : h = T := by
  have := a.2.2.2
  rw [show 4 - j = 0 from by omega] at this
  exact this

/-- Behind j bytes of the word x, taken by shifts of x itself. -/
def Wrs (x U j h : Nat) : Prop := j ≤ 4 ∧ h < 4294967296 ∧ mixW (4 - j) h (x / 256 ^ j) = U
theorem Wrs.step {x U j h : Nat} (a : Wrs x U j h) (hj : j < 4) : Wrs x U (j + 1) (mixB h (x / 256 ^ j % 256)) := by
  refine ⟨by omega, mixB_lt _ _, ?_⟩
  have := a.2.2
  rw [show 4 - j = (4 - (j + 1)) + 1 from by omega, mixW, Nat.div_div_eq_div_mul, ← Nat.pow_succ] at this
  exact this
theorem Wrs.fin {x U j h : Nat} (a : Wrs x U j h) (hj : ¬ j < 4) : h = U := by
  have := a.2.2
  rw [show 4 - j = 0 from by omega] at this
  exact this
theorem shr_byte (x j : Nat) : (x : Int) / 2 ^ (8 * j) % 256 = ((x / 256 ^ j % 256 : Nat) : Int) := by
  rw [show (256 : Nat) ^ j = 2 ^ (8 * j) from by rw [Nat.pow_mul]]
  simp

end Go.Proofs.Ytcofmfjhgbihkaa.hash
