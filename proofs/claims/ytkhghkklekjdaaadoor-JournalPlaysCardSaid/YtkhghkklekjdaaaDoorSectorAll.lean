/- Each call of a device and of the document's in one word: what it answers, and what becomes of it. -/
import Derived.Test.YtkhghkklekjdaaaDoorRows
import Derived.Test.YtkhghkklekjdaaaDoorSectorRNew
import Derived.Test.YtkhghkklekjdaaaDoorSectorRWrite
namespace Go.Proofs.YtkhghkklekjdaaaDoor.sector
open Go.RowKit
open Go.Proofs.YtkhghkklekjdaaaDoor.kit Go.Proofs.YtkhghkklekjdaaaDoor.own
set_option linter.unusedVariables false

def PickOk (m : Dev) : Prop := ∀ p, m.cut = some p → p.2 < 18446744073709551616
/-- What Write tells, and makes. -/
def wErr (m : Dev) (z : Int) (L : Nat) : Int := if m.power = false then 22 else if ¬ (0 ≤ z ∧ z < (m.n : Int)) then 20 else if L ≠ 64 then 10 else match m.cut with | some (0, _) => 22 | _ => 0
def wDev (m : Dev) (z : Int) (x : List Nat) : Dev := if m.power = false then m else if ¬ (0 ≤ z ∧ z < (m.n : Int)) then m else if x.length ≠ 64 then m else match m.cut with | some (0, p) => lost m p | _ => wrote m z.toNat x
def rErr (m : Dev) (z : Int) : Int := if m.power = false then 22 else if ¬ (0 ≤ z ∧ z < (m.n : Int)) then 20 else 0
def rBytes (m : Dev) (z : Int) : List Nat := if m.power = false then [] else if ¬ (0 ≤ z ∧ z < (m.n : Int)) then [] else look m z.toNat
def fErr (m : Dev) : Int := if m.power = false then 22 else 0
def fDev (m : Dev) : Dev := if m.power = false then m else flushed m
def lDev (m : Dev) (p : Nat) : Dev := if m.power = false then m else lost m p
def cDev (m : Dev) (z : Int) (p : Nat) : Dev := if m.power = false then m else if z < 0 then { m with cut := none } else { m with cut := some (z.toNat, p) }

theorem Turn.same (Z : Nat → Prop) (w : World) : Turn Z w w := Turn.refl Z w
theorem does_same {w : World} {Z : Nat → Prop} {d : Nat} {m : Dev} (h : DevAt w Z d m) {x e : Ending} {w' : World} (hh : e = x ∧ w = w') : Does w Z d m x e w' := by
  obtain ⟨rfl, rfl⟩ := hh
  exact ⟨rfl, h.more, Turn.refl _ _⟩
theorem does_of0 {w : World} {Z : Nat → Prop} {d : Nat} {m : Dev} {x e : Ending} {w' : World} (hh : Does0 w Z d m x e w') : Does w Z d m x e w' := ⟨hh.1, hh.2.1.more, hh.2.2⟩
theorem rdoes_same {w : World} {Z : Nat → Prop} {d : Nat} {m : Dev} (h : RAt w Z d m) {x e : Ending} {w' : World} (hh : e = x ∧ w = w') : RDoes w Z d m x e w' := by
  obtain ⟨rfl, rfl⟩ := hh
  exact ⟨rfl, h.more, Turn.refl _ _⟩
theorem rdoes_of0 {w : World} {Z : Nat → Prop} {d : Nat} {m : Dev} {x e : Ending} {w' : World} (hh : RDoes0 w Z d m x e w') : RDoes w Z d m x e w' := ⟨hh.1, hh.2.1.more, hh.2.2⟩

theorem Write_all (w : World) (Z : Nat → Prop) (d : Nat) (m : Dev) (h : DevAt w Z d m) (hpk : PickOk m) (z : Int) (v : Value) (x : List Nat) (hb : Byt w v x) (hws : m.ws + 1 < 4611686018427387904) (hap : ∀ b off n c, v = .slice (some ⟨b, off, none⟩) n c → 0 < n → ¬ Z b) :
    Calls Tryd.prog 57 #[.pointer (some ⟨d, 0, none⟩), .int .i64 z, v] w (Does w Z d (wDev m z x) (.returned (.int .i64 (wErr m z x.length)))) := by
  unfold wDev wErr
  obtain ⟨_, a, c, rfl, _⟩ := id hb.read
  cases hp : m.power with
  | false => simp only [if_true]; exact (Write_dead w Z d m h hp z _).mono fun e w' hh => does_same h hh
  | true =>
    simp only [Bool.true_eq_false, if_false]
    by_cases hk : 0 ≤ z ∧ z < (m.n : Int)
    · simp only [hk, and_self, not_true_eq_false, if_false]
      by_cases hl : x.length = 64
      · simp only [hl, ne_eq, not_true_eq_false, if_false]
        rcases hm : m.cut with _ | ⟨l, p⟩
        · obtain ⟨k, rfl⟩ := Int.eq_ofNat_of_zero_le hk.1
          exact Write_ok w Z d m h hp k (by omega) a c x hl hb.lt (by intro p hh; rw [hm] at hh; cases hh) hws (by have := hb.read; rw [hl] at this; exact this) (fun b off e => hap b off _ _ (by rw [e]) (by omega))
        · cases l with
          | zero => exact (Write_cut w Z d m h hp z hk a c p hm (hpk _ hm)).mono fun e w' hh => does_of0 hh
          | succ l =>
            obtain ⟨k, rfl⟩ := Int.eq_ofNat_of_zero_le hk.1
            exact Write_ok w Z d m h hp k (by omega) a c x hl hb.lt (by intro p hh; rw [hm] at hh; cases hh) hws (by have := hb.read; rw [hl] at this; exact this) (fun b off e => hap b off _ _ (by rw [e]) (by omega))
      · simp only [hl, ne_eq, not_false_eq_true, if_true]
        exact (Write_form w Z d m h hp z hk a _ c hl).mono fun e w' hh => does_same h hh
    · simp only [hk, not_false_eq_true, if_true]
      exact (Write_number w Z d m h hp z hk _).mono fun e w' hh => does_same h hh

theorem rWrite_all (w : World) (Z : Nat → Prop) (d : Nat) (m : Dev) (h : RAt w Z d m) (hpk : PickOk m) (z : Int) (v : Value) (x : List Nat) (hb : Byt w v x) (hws : m.ws + 1 < 4611686018427387904) (hap : ∀ b off n c, v = .slice (some ⟨b, off, none⟩) n c → 0 < n → ¬ Z b) :
    Calls Tryd.prog 44 #[.pointer (some ⟨d, 0, none⟩), .int .i64 z, v] w (RDoes w Z d (wDev m z x) (.returned (.int .i64 (wErr m z x.length)))) := by
  unfold wDev wErr
  obtain ⟨_, a, c, rfl, _⟩ := id hb.read
  cases hp : m.power with
  | false => simp only [if_true]; exact (rWrite_dead w Z d m h hp z _).mono fun e w' hh => rdoes_same h hh
  | true =>
    simp only [Bool.true_eq_false, if_false]
    by_cases hk : 0 ≤ z ∧ z < (m.n : Int)
    · simp only [hk, and_self, not_true_eq_false, if_false]
      by_cases hl : x.length = 64
      · simp only [hl, ne_eq, not_true_eq_false, if_false]
        rcases hm : m.cut with _ | ⟨l, p⟩
        · obtain ⟨k, rfl⟩ := Int.eq_ofNat_of_zero_le hk.1
          exact rWrite_ok w Z d m h hp k (by omega) a c x hl hb.lt (by intro p hh; rw [hm] at hh; cases hh) hws (by have := hb.read; rw [hl] at this; exact this) (fun b off e => hap b off _ _ (by rw [e]) (by omega))
        · cases l with
          | zero => exact (rWrite_cut w Z d m h hp z hk a c p hm (hpk _ hm)).mono fun e w' hh => rdoes_of0 hh
          | succ l =>
            obtain ⟨k, rfl⟩ := Int.eq_ofNat_of_zero_le hk.1
            exact rWrite_ok w Z d m h hp k (by omega) a c x hl hb.lt (by intro p hh; rw [hm] at hh; cases hh) hws (by have := hb.read; rw [hl] at this; exact this) (fun b off e => hap b off _ _ (by rw [e]) (by omega))
      · simp only [hl, ne_eq, not_false_eq_true, if_true]
        exact (rWrite_form w Z d m h hp z hk a _ c hl).mono fun e w' hh => rdoes_same h hh
    · simp only [hk, not_false_eq_true, if_true]
      exact (rWrite_number w Z d m h hp z hk _).mono fun e w' hh => rdoes_same h hh

/-- Bytes and an error. -/
def Tells (w : World) (x : List Nat) (er : Int) (e : Ending) (w' : World) : Prop := (∃ v, e = .returned (.tuple #[v, .int .i64 er]) ∧ SlI w' .u8 v x) ∧ Below w.heap.size w w'
theorem Read_all (w : World) (Z : Nat → Prop) (d : Nat) (m : Dev) (h : DevAt w Z d m) (z : Int) :
    Calls Tryd.prog 51 #[.pointer (some ⟨d, 0, none⟩), .int .i64 z] w (Tells w (rBytes m z) (rErr m z)) := by
  unfold rBytes rErr
  cases hp : m.power with
  | false =>
    simp only [if_true]
    refine (Read_dead w Z d m h hp z).mono ?_
    rintro e w' ⟨rfl, rfl⟩
    exact ⟨⟨_, rfl, SlI.nil _ _⟩, Below.refl _ _⟩
  | true =>
    simp only [Bool.true_eq_false, if_false]
    by_cases hk : 0 ≤ z ∧ z < (m.n : Int)
    · simp only [hk, and_self, not_true_eq_false, if_false]
      obtain ⟨k, rfl⟩ := Int.eq_ofNat_of_zero_le hk.1
      refine (Read_ok w Z d m h hp k (by omega)).mono ?_
      rintro e w' ⟨g, rfl, hg, _, hb⟩
      have hl := look_len h.1 (k := k) (by omega)
      have := sl_of_range (cap := 64) (range_of_block (cs := bv (look m k)) hg) (by rw [hl]; omega)
      rw [hl] at this
      exact ⟨⟨_, rfl, this⟩, hb⟩
    · simp only [hk, not_false_eq_true, if_true]
      refine (Read_number w Z d m h hp z hk).mono ?_
      rintro e w' ⟨rfl, rfl⟩
      exact ⟨⟨_, rfl, SlI.nil _ _⟩, Below.refl _ _⟩
theorem rRead_all (w : World) (Z : Nat → Prop) (d : Nat) (m : Dev) (h : RAt w Z d m) (z : Int) :
    Calls Tryd.prog 53 #[.pointer (some ⟨d, 0, none⟩), .int .i64 z] w (Tells w (rBytes m z) (rErr m z)) := by
  unfold rBytes rErr
  cases hp : m.power with
  | false =>
    simp only [if_true]
    refine (rRead_dead w Z d m h hp z).mono ?_
    rintro e w' ⟨rfl, rfl⟩
    exact ⟨⟨_, rfl, SlI.nil _ _⟩, Below.refl _ _⟩
  | true =>
    simp only [Bool.true_eq_false, if_false]
    by_cases hk : 0 ≤ z ∧ z < (m.n : Int)
    · simp only [hk, and_self, not_true_eq_false, if_false]
      obtain ⟨k, rfl⟩ := Int.eq_ofNat_of_zero_le hk.1
      have hh : Calls Tryd.prog 53 #[.pointer (some ⟨d, 0, none⟩), .int .i64 (k : Nat)] w (RReads w (look m k)) := by
        by_cases hj : (keys m.cache).idxOf k < m.cache.length
        · exact rRead_hit w Z d m h hp k (by omega) hj
        · exact rRead_miss w Z d m h hp k (by omega) hj
      refine hh.mono ?_
      rintro e w' ⟨b, o, n, c, rfl, hs, hb, -⟩
      exact ⟨⟨_, rfl, hs⟩, hb⟩
    · simp only [hk, not_false_eq_true, if_true]
      refine (rRead_number w Z d m h hp z hk).mono ?_
      rintro e w' ⟨rfl, rfl⟩
      exact ⟨⟨_, rfl, SlI.nil _ _⟩, Below.refl _ _⟩

theorem Flush_all (w : World) (Z : Nat → Prop) (d : Nat) (m : Dev) (h : DevAt w Z d m) (hf : m.fs + 1 < 4611686018427387904) : Calls Tryd.prog 58 #[.pointer (some ⟨d, 0, none⟩)] w (Does w Z d (fDev m) (.returned (.int .i64 (fErr m)))) := by
  unfold fDev fErr
  cases hp : m.power with
  | false => simp only [if_true]; exact (Flush_dead w Z d m h hp).mono fun e w' hh => does_same h hh
  | true => simp only [Bool.true_eq_false, if_false]; exact (Flush_on w Z d m h hp hf).mono fun e w' hh => does_of0 hh
theorem rFlush_all (w : World) (Z : Nat → Prop) (d : Nat) (m : Dev) (h : RAt w Z d m) (hf : m.fs + 1 < 4611686018427387904) : Calls Tryd.prog 45 #[.pointer (some ⟨d, 0, none⟩)] w (RDoes w Z d (fDev m) (.returned (.int .i64 (fErr m)))) := by
  unfold fDev fErr
  cases hp : m.power with
  | false => simp only [if_true]; exact (rFlush_dead w Z d m h hp).mono fun e w' hh => rdoes_same h hh
  | true => simp only [Bool.true_eq_false, if_false]; exact (rFlush_on w Z d m h hp hf).mono fun e w' hh => rdoes_of0 hh
theorem Lose_all (w : World) (Z : Nat → Prop) (d : Nat) (m : Dev) (h : DevAt w Z d m) (p : Nat) (h64 : p < 18446744073709551616) : Calls Tryd.prog 69 #[.pointer (some ⟨d, 0, none⟩), .int .u64 p] w (Does w Z d (lDev m p) (.returned (.tuple #[]))) := by
  unfold lDev
  cases hp : m.power with
  | false => simp only [if_true]; exact (Lose_dead w Z d m h hp p).mono fun e w' hh => does_same h hh
  | true => simp only [Bool.true_eq_false, if_false]; exact (Lose_on w Z d m h hp p h64 p rfl).mono fun e w' hh => does_of0 hh
theorem rLose_all (w : World) (Z : Nat → Prop) (d : Nat) (m : Dev) (h : RAt w Z d m) (p : Nat) (h64 : p < 18446744073709551616) : Calls Tryd.prog 59 #[.pointer (some ⟨d, 0, none⟩), .int .u64 p] w (RDoes w Z d (lDev m p) (.returned (.tuple #[]))) := by
  unfold lDev
  cases hp : m.power with
  | false => simp only [if_true]; exact (rLose_dead w Z d m h hp p).mono fun e w' hh => rdoes_same h hh
  | true => simp only [Bool.true_eq_false, if_false]; exact (rLose_on w Z d m h hp p h64 p rfl).mono fun e w' hh => rdoes_of0 hh
theorem Cut_all (w : World) (Z : Nat → Prop) (d : Nat) (m : Dev) (h : DevAt w Z d m) (z : Int) (hz : z ≤ 9223372036854775807) (p : Nat) : Calls Tryd.prog 18 #[.pointer (some ⟨d, 0, none⟩), .int .i64 z, .int .u64 p] w (Does w Z d (cDev m z p) (.returned (.tuple #[]))) := by
  unfold cDev
  by_cases hp : m.power = false
  · rw [if_pos hp]; exact (Cut_dead w Z d m h hp z p).mono fun e w' hh => does_same h hh
  · have hp' : m.power = true := by simpa using hp
    rw [if_neg hp]
    by_cases hn : z < 0
    · rw [if_pos hn]; exact (Cut_neg w Z d m h hp' z p hn).mono fun e w' hh => does_of0 hh
    · rw [if_neg hn]
      obtain ⟨k, rfl⟩ := Int.eq_ofNat_of_zero_le (show 0 ≤ z by omega)
      rw [Int.toNat_natCast]
      exact (Cut_pos w Z d m h hp' k p (by omega)).mono fun e w' hh => does_of0 hh
theorem rCut_all (w : World) (Z : Nat → Prop) (d : Nat) (m : Dev) (h : RAt w Z d m) (z : Int) (hz : z ≤ 9223372036854775807) (p : Nat) : Calls Tryd.prog 19 #[.pointer (some ⟨d, 0, none⟩), .int .i64 z, .int .u64 p] w (RDoes w Z d (cDev m z p) (.returned (.tuple #[]))) := by
  unfold cDev
  by_cases hp : m.power = false
  · rw [if_pos hp]; exact (rCut_dead w Z d m h hp z p).mono fun e w' hh => rdoes_same h hh
  · have hp' : m.power = true := by simpa using hp
    rw [if_neg hp]
    by_cases hn : z < 0
    · rw [if_pos hn]; exact (rCut_neg w Z d m h hp' z p hn).mono fun e w' hh => rdoes_of0 hh
    · rw [if_neg hn]
      obtain ⟨k, rfl⟩ := Int.eq_ofNat_of_zero_le (show 0 ≤ z by omega)
      rw [Int.toNat_natCast]
      exact (rCut_pos w Z d m h hp' k p (by omega)).mono fun e w' hh => rdoes_of0 hh
/-- Both devices, apart, above the heap that the law found. -/
structure Both (w0 w : World) (d r : Nat) (m : Dev) (Z Y : Nat → Prop) : Prop where
  dev : DevAt w Z d m
  doc : RAt w Y r m
  apart : ∀ k, Z k → ¬ Y k
  za : ∀ k, Z k → w0.heap.size ≤ k
  ya : ∀ k, Y k → w0.heap.size ≤ k
  below : Below w0.heap.size w0 w
  pick : PickOk m
  pos : 1 ≤ m.n
theorem Both.keep {w0 w w' : World} {d r : Nat} {m : Dev} {Z Y : Nat → Prop} (h : Both w0 w d r m Z Y) (hb : Below w.heap.size w w') : Both w0 w' d r m Z Y :=
  ⟨h.dev.keep hb, h.doc.keep hb, h.apart, h.za, h.ya, h.below.trans (hb.mono h.below.size), h.pick, h.pos⟩
theorem Both.mid {w0 w w1 : World} {d r : Nat} {m : Dev} {Z Y : Nat → Prop} (h : Both w0 w d r m Z Y) (ht : Turn Z w w1) : RAt w1 Y r m :=
  h.doc.stays (fun k hk => ht.block k (h.doc.lt k hk) (fun hz => h.apart k hz hk)) ht.size
theorem Both.step {w0 w w1 w2 : World} {d r : Nat} {m m' : Dev} {Z Y : Nat → Prop} (h : Both w0 w d r m Z Y) (hd : DevAt w1 (More Z w w1) d m') (ht : Turn Z w w1) (hr : RAt w2 (More Y w1 w2) r m') (ht2 : Turn Y w1 w2) (hp : PickOk m') (hn : 1 ≤ m'.n) :
    Both w0 w2 d r m' (More Z w w1) (More Y w1 w2) := by
  have b1 : Below w0.heap.size w0 w1 := Turn.below h.below ht h.below.size h.za
  have hny : ∀ k, More Z w w1 k → ¬ Y k := fun k hk hy => hk.elim (fun hz => h.apart k hz hy) (fun hh => by have := h.doc.lt k hy; omega)
  refine ⟨hd.stays (fun k hk => ht2.block k (hd.lt k hk) (hny k hk)) ht2.size, hr, fun k hk hy => ?_, more_ge h.za h.below.size, more_ge h.ya b1.size, Turn.below b1 ht2 b1.size h.ya, hp, hn⟩
  rcases hy with hy | hy
  · exact hny k hk hy
  · have := hd.lt k hk; omega

end Go.Proofs.YtkhghkklekjdaaaDoor.sector
