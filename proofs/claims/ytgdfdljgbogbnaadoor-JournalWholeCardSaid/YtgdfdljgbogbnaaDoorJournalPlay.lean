/- A journal and its device, call by call. -/
import Derived.Test.YtgdfdljgbogbnaaDoorRows
import Derived.Test.YtgdfdljgbogbnaaDoorJournalState
import Derived.Test.YtgdfdljgbogbnaaDoorJournalOpen
import Derived.Test.YtgdfdljgbogbnaaDoorSectorNew
namespace Go.Proofs.YtgdfdljgbogbnaaDoor.journal
open Go.RowKit
open Go.Proofs.YtgdfdljgbogbnaaDoor.kit Go.Proofs.YtgdfdljgbogbnaaDoor.own Go.Proofs.YtgdfdljgbogbnaaDoor.jm Go.Proofs.YtgdfdljgbogbnaaDoor.sector
open Go.Proofs.YtgdfdljgbogbnaaDoor.frame (Nib)
set_option linter.unusedVariables false

/-- Zeros tell nothing. -/
theorem look_fresh {N k : Nat} (h : k < N) : sector.look (fresh N) k = List.replicate 64 0 := by
  rw [look_empty (m := fresh N) rfl]
  show ((List.replicate (N * 64) 0).drop (k * 64)).take 64 = _
  rw [List.drop_replicate, List.take_replicate]
  congr 1
  omega
theorem pcs_fresh {N from_ n : Nat} (h : from_ + n ≤ N) : ∀ p ∈ pcsOf (fresh N) from_ n, p = ⟨0, 0, []⟩ := by
  intro p hp
  obtain ⟨i, hi⟩ := List.getElem?_of_mem hp
  have hin : i < n := by have := (List.getElem?_eq_some_iff.1 hi).1; rw [pcsOf_len] at this; exact this
  rw [pcsOf_at _ _ _ _ hin, look_fresh (by omega)] at hi
  have : pcOf (List.replicate 64 0) = ⟨0, 0, []⟩ := by
    unfold pcOf
    rw [if_neg (by rintro ⟨h1, _⟩; rcases h1 with h1 | h1 <;> exact absurd h1 (by decide))]
  rw [this] at hi
  exact (Option.some.inj hi).symm
theorem fresh_stand {N from_ n first : Nat} (h : from_ + n ≤ N) (hN : N ≤ 4096) : standF first (pcsOf (fresh N) from_ n) = ([], 0) ∧ gmax (pcsOf (fresh N) from_ n) = 0 := by
  have hall := pcs_fresh h
  refine ⟨stand_eq (pcsOf_ok (fresh_ok hN) from_ n h) (.stop ?_), ?_⟩
  · cases hp : pcsOf (fresh N) from_ n with
    | nil => exact fun h => h.elim
    | cons p ps =>
      have := hall p (by rw [hp]; exact List.mem_cons_self)
      subst this
      intro hw
      exact absurd hw.1 (by simp)
  · have : ∀ ps : List Pc, (∀ p ∈ ps, p = (⟨0, 0, []⟩ : Pc)) → gmax ps = 0 := by
      intro ps
      unfold gmax
      induction ps with
      | nil => intro _; rfl
      | cons q ps ih => intro hq; rw [List.foldl_cons, hq q List.mem_cons_self]; exact ih fun p hp => hq p (List.mem_cons_of_mem _ hp)
    exact this _ hall
theorem fresh_rests {N : Nat} (hN : N ≤ 4096) : Rests (fresh N) := ⟨fresh_ok hN, rfl, rfl⟩

/-- Behind an append with the power staying: the record is there. -/
theorem Stood.good {first from_ n : Nat} {recs : List (List Nat)} {j : Jn} {m : Dev} {text : List Nat} (h : Stood first from_ n recs j m) (h8 : ∀ x ∈ text, x < 256) (hcut : m.cut = none)
    (hl : ¬ leftV j.end_ j.at_ j.next < need text.length) (hws : m.ws + 4096 < 4611686018427387904) (hfs : m.fs + 1 < 4611686018427387904) :
    appendE j text m = 0 ∧ Stood first from_ n (recs ++ [text]) (appendJ j text m) (appendM j text m) ∧ (appendM j text m).cut = none ∧ (appendM j text m).ws = m.ws + need text.length ∧ (appendM j text m).fs = m.fs + 1 ∧ (appendM j text m).n = m.n ∧
      appendJ j text m = { j with at_ := j.at_ + need text.length, next := j.next + 1 } := by
  have hno : ¬ (j.torn = true ∨ m.power = false) := by rw [h.torn, h.rest.power]; simp
  unfold appendE appendJ appendM
  rw [if_neg hno, if_neg hno, if_neg hno, if_neg hl, if_neg hl, if_neg hl]
  rcases h.app h8 hl hws hfs with ⟨e1, e2, e3⟩ | ⟨_, e2, _⟩
  · rw [e1]
    obtain ⟨a1, a2, a3, a4, a5, a6, a7, a8⟩ := e2
    exact ⟨rfl, e3, by rw [a7, hcut]; rfl, a5, a6, a4, rfl⟩
  · exact absurd hcut e2.2.2.2.2.2.2.2.1
theorem Stood.full {first from_ n : Nat} {recs : List (List Nat)} {j : Jn} {m : Dev} {text : List Nat} (h : Stood first from_ n recs j m) (hl : leftV j.end_ j.at_ j.next < need text.length) :
    appendE j text m = 21 ∧ appendJ j text m = j ∧ appendM j text m = m := by
  have hno : ¬ (j.torn = true ∨ m.power = false) := by rw [h.torn, h.rest.power]; simp
  unfold appendE appendJ appendM
  rw [if_neg hno, if_neg hno, if_neg hno, if_pos hl, if_pos hl, if_pos hl]
  exact ⟨rfl, rfl, rfl⟩

/-- The journal j at J and its device m, all of them new since w0. -/
structure PlayAt (B : Nat) (w0 W : World) (Z : Nat → Prop) (J : Nat) (j : Jn) (m : Dev) : Prop where
  bel : Below B w0 W
  dev : DevAt W Z j.d m
  jat : JAt W J j
  zj : ¬ Z J
  zB : ∀ k, Z k → B ≤ k
  jB : B ≤ J
  pick : PickOk m
  nib : Nib W
  nibB : 0 < B
  bs : B ≤ w0.heap.size

theorem PlayAt.jlt {B : Nat} {w0 W : World} {Z : Nat → Prop} {J : Nat} {j : Jn} {m : Dev} (h : PlayAt B w0 W Z J j m) : J < W.heap.size := JBox.lt h.jat
/-- What turns nothing of theirs. -/
theorem PlayAt.keep {B : Nat} {w0 W W' : World} {Z : Nat → Prop} {J : Nat} {j : Jn} {m : Dev} (h : PlayAt B w0 W Z J j m) (hb : Below W.heap.size W W') : PlayAt B w0 W' Z J j m :=
  ⟨h.bel.trans (hb.mono (Nat.le_trans h.bs h.bel.size)), h.dev.keep hb, (hb.block J h.jlt).trans h.jat, h.zj, h.zB, h.jB, h.pick, h.nib.keep hb, h.nibB, h.bs⟩
theorem PlayAt.append {B : Nat} {w0 W : World} {Z : Nat → Prop} {J : Nat} {j : Jn} {m : Dev} (h : PlayAt B w0 W Z J j m) (text : List Nat) (h8 : ∀ x ∈ text, x < 256) (hlen : text.length ≤ 9223372036854775807) (hnext : j.next < 9223372036854775807) (hae : j.at_ ≤ j.end_) (he : j.end_ ≤ 4096)
    (hws : m.ws + 2000000 < 4611686018427387904) (hfs : m.fs + 1 < 4611686018427387904) :
    Calls Tryd.prog 14 #[.pointer (some ⟨J, 0, none⟩), .string (strN text)] W fun e W' => e = .returned (.int .i64 (appendE j text m)) ∧ ∃ Z', PlayAt B w0 W' Z' J (appendJ j text m) (appendM j text m) := by
  refine (Append_any W Z J j m text h.jat h.dev h.pick h.zj (fun hz => by have := h.zB _ hz; have := h.nibB; omega) h.nib h8 hlen hnext hae he hws hfs).mono ?_
  rintro e W' ⟨rfl, g1, g2, g3, g4⟩
  have hd : (appendJ j text m).d = j.d := by unfold appendJ; split; rfl; split; rfl; split <;> rfl
  have hs := h.bel.size
  have hbs := h.bs
  have hj := h.jlt
  have hb : Below B W W' := ⟨g3.os, g3.tape, g3.output, g3.size, fun k hk => g3.block k (by have := h.jB; omega) (fun hz => by
    rcases hz with hz | hz
    · have := h.zB _ hz; omega
    · have := h.jB; omega)⟩
  refine ⟨rfl, More Z W W', h.bel.trans hb, by rw [hd]; exact g2, g1, ?_, ?_, h.jB, g4, ?_, h.nibB, h.bs⟩
  · rintro (hz | hz)
    · exact h.zj hz
    · omega
  · rintro k (hz | hz)
    · exact h.zB k hz
    · have := h.jB; omega
  · exact fun q hq => (hb.cell (p := ⟨_, q, none⟩) h.nibB).trans (h.nib q hq)

/-- An append that there is room for, with the power staying. -/
def Grew (B : Nat) (w0 : World) (J : Nat) (first from_ n : Nat) (recs : List (List Nat)) (text : List Nat) (j : Jn) (m : Dev) (W' : World) : Prop :=
  ∃ Z' m', PlayAt B w0 W' Z' J { j with at_ := j.at_ + need text.length, next := j.next + 1 } m' ∧ Stood first from_ n (recs ++ [text]) { j with at_ := j.at_ + need text.length, next := j.next + 1 } m' ∧ m'.cut = none ∧ m'.ws = m.ws + need text.length ∧ m'.fs = m.fs + 1 ∧ m'.n = m.n
theorem PlayAt.grow {B : Nat} {w0 W : World} {Z : Nat → Prop} {J : Nat} {j : Jn} {m : Dev} {first from_ n : Nat} {recs : List (List Nat)} (h : PlayAt B w0 W Z J j m) (s : Stood first from_ n recs j m) (hcut : m.cut = none) (text : List Nat) (h8 : ∀ x ∈ text, x < 256)
    (hl : ¬ leftV j.end_ j.at_ j.next < need text.length) (hws : m.ws + 2000000 < 4611686018427387904) (hfs : m.fs + 1 < 4611686018427387904) :
    Calls Tryd.prog 14 #[.pointer (some ⟨J, 0, none⟩), .string (strN text)] W fun e W' => e = .returned (.int .i64 0) ∧ Grew B w0 J first from_ n recs text j m W' := by
  have hmn := s.rest.ok.n
  have hft := s.fits
  have hje := s.je
  have hnd : need text.length ≤ 4096 ∧ j.next ≤ 4611686018427387904 := by
    have := need_pos text.length
    unfold leftV at hl
    split at hl <;> omega
  have hlen : text.length ≤ 9223372036854775807 := by have := need_ge text.length; omega
  obtain ⟨g1, g2, g3, g4, g5, g6, g7⟩ := s.good h8 hcut hl (by omega) hfs
  refine (h.append text h8 hlen (by omega) s.room (by omega) hws hfs).mono ?_
  rintro e W' ⟨rfl, Z', hp⟩
  rw [g7] at hp g2
  rw [g1]
  exact ⟨rfl, Z', _, hp, g2, g3, g4, g5, g6⟩
theorem PlayAt.over {B : Nat} {w0 W : World} {Z : Nat → Prop} {J : Nat} {j : Jn} {m : Dev} {first from_ n : Nat} {recs : List (List Nat)} (h : PlayAt B w0 W Z J j m) (s : Stood first from_ n recs j m) (text : List Nat) (h8 : ∀ x ∈ text, x < 256) (hlen : text.length ≤ 9223372036854775807) (hnext : j.next < 9223372036854775807)
    (hl : leftV j.end_ j.at_ j.next < need text.length) (hws : m.ws + 2000000 < 4611686018427387904) (hfs : m.fs + 1 < 4611686018427387904) :
    Calls Tryd.prog 14 #[.pointer (some ⟨J, 0, none⟩), .string (strN text)] W fun e W' => e = .returned (.int .i64 21) ∧ ∃ Z', PlayAt B w0 W' Z' J j m := by
  have hmn := s.rest.ok.n
  have hft := s.fits
  have hje := s.je
  obtain ⟨g1, g2, g3⟩ := s.full hl
  refine (h.append text h8 hlen hnext s.room (by omega) hws hfs).mono ?_
  rintro e W' ⟨rfl, Z', hp⟩
  rw [g2, g3] at hp
  rw [g1]
  exact ⟨rfl, Z', hp⟩
/-- What Open tells of what stands. -/
theorem Stood.told {first from_ n : Nat} {recs : List (List Nat)} {j : Jn} {m : Dev} (h : Stood first from_ n recs j m) : (standF first (pcsOf m from_ n)).1 = recs := by
  obtain ⟨k, _, hs⟩ := h.at_
  rw [stand_eq (pcsOf_ok h.rest.ok from_ n h.fits) hs]

/-- The chapter's device, opened. -/
theorem play_new {B : Nat} {w0 w W : World} {d N from_ n first J : Nat} (hB : B = w0.heap.size) (hw : Below B w0 w) (hd : DevAt w (Fresh w0 w) d (fresh N)) (hb : Below w.heap.size w W) (hJ : w.heap.size ≤ J) (hj : JAt W J ⟨d, from_, from_ + n, from_, max 1 first, false⟩) (hN : Nib w0) :
    PlayAt B w0 W (Fresh w0 w) J ⟨d, from_, from_ + n, from_, max 1 first, false⟩ (fresh N) := by
  refine ⟨hw.trans (hb.mono (by have := hw.size; omega)), hd.keep hb, hj, ?_, ?_, by have := hw.size; omega, fun p hp => (by cases hp), (hN.keep (by rw [← hB]; exact hw)).keep hb, ?_, by omega⟩
  · rintro (hz | hz)
    · exact hz
    · omega
  · rintro k (hz | hz)
    · exact hz.elim
    · omega
  · have := cell_lt (hN 0 (by omega))
    rw [hB]; exact this

end Go.Proofs.YtgdfdljgbogbnaaDoor.journal
