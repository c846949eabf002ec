/- A journal that goes on with the power staying: for the loops of the laws. -/
import Derived.Test.YtgdfdljgbogbnaaDoorRows
import Derived.Test.YtgdfdljgbogbnaaDoorJournalPlay
import Derived.Test.YtgdfdljgbogbnaaDoorJournalTexts
namespace Go.Proofs.YtgdfdljgbogbnaaDoor.journal
open Go.RowKit
open Go.Proofs.YtgdfdljgbogbnaaDoor.kit Go.Proofs.YtgdfdljgbogbnaaDoor.own Go.Proofs.YtgdfdljgbogbnaaDoor.jm Go.Proofs.YtgdfdljgbogbnaaDoor.sector
open Go.Proofs.YtgdfdljgbogbnaaDoor.frame (Nib)
set_option linter.unusedVariables false

/-- The state between two appends. c bounds what was used ahead. -/
structure Going (B : Nat) (w0 W : World) (J d : Nat) (first n c : Nat) (recs : List (List Nat)) (Z : Nat → Prop) (j : Jn) (m : Dev) : Prop where
  play : PlayAt B w0 W Z J j m
  stood : Stood first 0 n recs j m
  cut : m.cut = none
  jd : j.d = d
  mn : m.n = n
  next : j.next ≤ c + j.at_
  ws : m.ws ≤ c + j.at_
  fs : m.fs ≤ c + j.at_
  small : c ≤ 1000
  n64 : n ≤ 64
def Goes (B : Nat) (w0 : World) (J d first n c : Nat) (recs : List (List Nat)) (W : World) : Prop := ∃ Z j m, Going B w0 W J d first n c recs Z j m
theorem Goes.keep {B : Nat} {w0 W W' : World} {J d first n c : Nat} {recs : List (List Nat)} (h : Goes B w0 J d first n c recs W) (hb : Below W.heap.size W W') : Goes B w0 J d first n c recs W' := by
  obtain ⟨Z, j, m, h⟩ := h
  exact ⟨Z, j, m, h.play.keep hb, h.stood, h.cut, h.jd, h.mn, h.next, h.ws, h.fs, h.small, h.n64⟩
theorem Goes.bel {B : Nat} {w0 W : World} {J d first n c : Nat} {recs : List (List Nat)} (h : Goes B w0 J d first n c recs W) : Below B w0 W := by
  obtain ⟨Z, j, m, h⟩ := h
  exact h.play.bel
theorem Goes.step {B : Nat} {w0 W : World} {J d first n c : Nat} {recs : List (List Nat)} (h : Goes B w0 J d first n c recs W) (s : ByteArray) (hs : s.size ≤ 9223372036854775807) :
    Calls Tryd.prog 14 #[.pointer (some ⟨J, 0, none⟩), .string s] W fun e W' => (e = .returned (.int .i64 0) ∧ Goes B w0 J d first n c (recs ++ [byN s]) W') ∨ (e = .returned (.int .i64 21) ∧ Goes B w0 J d first n c recs W') := by
  obtain ⟨Z, j, m, h⟩ := h
  have hr := h.stood.room
  have hje := h.stood.je
  have hsm := h.small
  have hn := h.n64
  have hnx := h.next
  have hw := h.ws
  have hf := h.fs
  have hlen : (byN s).length = s.size := by have := strN_size (byN s); rw [strN_byN] at this; exact this.symm
  have h8 : ∀ x ∈ byN s, x < 256 := byN_lt s
  by_cases hl : leftV j.end_ j.at_ j.next < need (byN s).length
  · have := h.play.over h.stood (byN s) h8 (by omega) (by omega) hl (by omega) (by omega)
    rw [strN_byN] at this
    refine this.mono ?_
    rintro e W' ⟨rfl, Z', hp⟩
    exact .inr ⟨rfl, Z', j, m, hp, h.stood, h.cut, h.jd, h.mn, h.next, h.ws, h.fs, h.small, h.n64⟩
  · have := h.play.grow h.stood h.cut (byN s) h8 hl (by omega) (by omega)
    rw [strN_byN] at this
    refine this.mono ?_
    rintro e W' ⟨rfl, Z', m', hp, hst, g1, g2, g3, g4⟩
    have hnp := need_pos (byN s).length
    exact .inl ⟨rfl, Z', _, m', hp, hst, g1, h.jd, g4.trans h.mn, by simp only; omega, by simp only; omega, by simp only; omega, h.small, h.n64⟩

/-- A device's own blocks alone: none of them is a row of texts. -/
theorem DevAt.least {W : World} {Z : Nat → Prop} {d : Nat} {m : Dev} (h : DevAt W Z d m) : ∃ Z', DevAt W Z' d m ∧ (∀ k, Z' k → Z k) ∧ ∀ k, Z' k → ∃ cur t fz, W.heap[k]? = some (.cells cur t fz) ∧ t ≠ 9 := by
  obtain ⟨ok, vo, vb, vl, hl⟩ := h
  have hsub : ∀ k, (k = d ∨ vo.ownBlock = some k ∨ vb.ownBlock = some k ∨ vl.ownBlock = some k) → Z k := by
    rintro k (rfl | hk | hk | hk)
    · exact hl.zd
    · exact hl.zo k hk
    · exact hl.zb k hk
    · exact hl.zl k hk
  refine ⟨fun k => k = d ∨ vo.ownBlock = some k ∨ vb.ownBlock = some k ∨ vl.ownBlock = some k, ⟨ok, vo, vb, vl, hl.box, hl.order, hl.blocks, hl.laid, hl.apart, .inl rfl, fun g hg => .inr (.inl hg), fun g hg => .inr (.inr (.inl hg)), fun g hg => .inr (.inr (.inr hg)), fun k hk => hl.zlt k (hsub k hk)⟩, hsub, ?_⟩
  rintro k (rfl | hk | hk | hk)
  · exact ⟨_, _, _, hl.box, by decide⟩
  · have ho := hl.order
    unfold OwnI at ho
    obtain ⟨cur, hc⟩ := sector.own_type ho hk
    exact ⟨_, _, _, hc, by decide⟩
  · obtain ⟨cur, hc⟩ := sector.own_type hl.blocks hk
    exact ⟨_, _, _, hc, by decide⟩
  · obtain ⟨cur, hc⟩ := sector.own_type hl.laid hk
    exact ⟨_, _, _, hc, by decide⟩
/-- An append leaves rows of texts of the call's own as they are. -/
theorem PlayAt.append2 {B : Nat} {w0 W : World} {Z : Nat → Prop} {J : Nat} {j : Jn} {m : Dev} (h : PlayAt B w0 W Z J j m) (text : List Nat) (h8 : ∀ x ∈ text, x < 256) (hlen : text.length ≤ 9223372036854775807) (hnext : j.next < 9223372036854775807) (hae : j.at_ ≤ j.end_) (he : j.end_ ≤ 4096)
    (hws : m.ws + 2000000 < 4611686018427387904) (hfs : m.fs + 1 < 4611686018427387904) :
    Calls Tryd.prog 14 #[.pointer (some ⟨J, 0, none⟩), .string (strN text)] W fun e W' => e = .returned (.int .i64 (appendE j text m)) ∧ (∃ Z', PlayAt B w0 W' Z' J (appendJ j text m) (appendM j text m)) ∧ ∀ B' v ss, OwnT W B' v ss → OwnT W' B' v ss := by
  obtain ⟨Zl, hdl, hsub, hty⟩ := DevAt.least h.dev
  refine (Append_any W Zl J j m text h.jat hdl h.pick (fun hz => h.zj (hsub _ hz)) (fun hz => by have := h.zB _ (hsub _ hz); have := h.nibB; omega) h.nib h8 hlen hnext hae he hws hfs).mono ?_
  rintro e W' ⟨rfl, g1, g2, g3, g4⟩
  have hd : (appendJ j text m).d = j.d := by unfold appendJ; split; rfl; split; rfl; split <;> rfl
  have hs := h.bel.size
  have hbs := h.bs
  have hj := h.jlt
  have hb : Below B W W' := ⟨g3.os, g3.tape, g3.output, g3.size, fun k hk => g3.block k (by have := h.jB; omega) (fun hz => by
    rcases hz with hz | hz
    · have := h.zB _ (hsub _ hz); omega
    · have := h.jB; omega)⟩
  refine ⟨rfl, ⟨More Zl W W', h.bel.trans hb, by rw [hd]; exact g2, g1, ?_, ?_, h.jB, g4, ?_, h.nibB, h.bs⟩, fun B' v ss ho => ho.stays fun g hg => ?_⟩
  · rintro (hz | hz)
    · exact h.zj (hsub _ hz)
    · omega
  · rintro k (hz | hz)
    · exact h.zB k (hsub _ hz)
    · have := h.jB; omega
  · exact fun q hq => (hb.cell (p := ⟨_, q, none⟩) h.nibB).trans (h.nib q hq)
  · obtain ⟨cur, hc⟩ := sector.own_type ho hg
    refine g3.block g (Array.getElem?_eq_some_iff.1 hc).1 ?_
    rintro (hz | rfl)
    · obtain ⟨cur2, t2, fz2, h2, h3⟩ := hty g hz
      rw [hc] at h2
      cases h2
      exact h3 rfl
    · have h2 : W.heap[g]? = _ := h.jat
      rw [hc] at h2
      cases h2
theorem Goes.step2 {B : Nat} {w0 W : World} {J d first n c : Nat} {recs : List (List Nat)} (h : Goes B w0 J d first n c recs W) (s : ByteArray) (hs : s.size ≤ 9223372036854775807) :
    Calls Tryd.prog 14 #[.pointer (some ⟨J, 0, none⟩), .string s] W fun e W' => ((e = .returned (.int .i64 0) ∧ Goes B w0 J d first n c (recs ++ [byN s]) W') ∨ (e = .returned (.int .i64 21) ∧ Goes B w0 J d first n c recs W')) ∧ ∀ B' v ss, OwnT W B' v ss → OwnT W' B' v ss := by
  obtain ⟨Z, j, m, h⟩ := h
  have hr := h.stood.room
  have hje := h.stood.je
  have hsm := h.small
  have hn := h.n64
  have hnx := h.next
  have hw := h.ws
  have hf := h.fs
  have hlen : (byN s).length = s.size := by have := strN_size (byN s); rw [strN_byN] at this; exact this.symm
  have h8 : ∀ x ∈ byN s, x < 256 := byN_lt s
  have := h.play.append2 (byN s) h8 (by omega) (by omega) hr (by omega) (by omega) (by omega)
  rw [strN_byN] at this
  refine this.mono ?_
  rintro e W' ⟨rfl, ⟨Z', hp⟩, hown⟩
  refine ⟨?_, hown⟩
  by_cases hl : leftV j.end_ j.at_ j.next < need (byN s).length
  · obtain ⟨g1, g2, g3⟩ := h.stood.full hl
    rw [g2, g3] at hp
    rw [g1]
    exact .inr ⟨rfl, Z', j, m, hp, h.stood, h.cut, h.jd, h.mn, h.next, h.ws, h.fs, h.small, h.n64⟩
  · obtain ⟨g1, g2, g3, g4, g5, g6, g7⟩ := h.stood.good h8 h.cut hl (by omega) (by omega)
    rw [g7] at hp g2
    rw [g1]
    have hnp := need_pos (byN s).length
    exact .inl ⟨rfl, Z', _, _, hp, g2, g3, h.jd, g6.trans h.mn, by simp only; omega, by simp only; omega, by simp only; omega, h.small, h.n64⟩
/-- What turns rows of texts of the call's own alone. -/
theorem Goes.kept {B : Nat} {w0 W W' : World} {J d first n c : Nat} {recs : List (List Nat)} (h : Goes B w0 J d first n c recs W) (hk : Kept B 9 W W') : Goes B w0 J d first n c recs W' := by
  obtain ⟨Z, j, m, h⟩ := h
  obtain ⟨ok, vo, vb, vl, hl⟩ := h.play.dev
  have ho := hl.order
  unfold OwnI at ho
  refine ⟨Z, j, m, ⟨h.play.bel.trans hk.toBelow, ⟨ok, vo, vb, vl, hk.box (by decide) hl.box, ?_, own_kept hl.blocks (by decide) hk, own_kept hl.laid (by decide) hk, hl.apart, hl.zd, hl.zo, hl.zb, hl.zl, fun k hz => Nat.lt_of_lt_of_le (hl.zlt k hz) hk.size⟩, hk.box (by decide) h.play.jat, h.play.zj, h.play.zB, h.play.jB, h.play.pick, ?_, h.play.nibB, h.play.bs⟩, h.stood, h.cut, h.jd, h.mn, h.next, h.ws, h.fs, h.small, h.n64⟩
  · unfold OwnI
    exact own_kept ho (by decide) hk
  · exact fun q hq => (hk.toBelow.cell (p := ⟨_, q, none⟩) h.play.nibB).trans (h.play.nib q hq)

/-- Behind a new beginning nothing stands from the next number on. -/
theorem Stood.anew {first from_ n : Nat} {recs : List (List Nat)} {j : Jn} {m : Dev} (h : Stood first from_ n recs j m) : Stood j.next from_ n [] { j with at_ := from_ } m := by
  refine ⟨h.rest, h.fits, h.jf, h.je, h.torn, ⟨0, rfl, .stop ?_⟩, Nat.le_trans h.first1 h.next, Nat.le_refl _, h.new⟩
  cases hp : pcsOf m from_ n with
  | nil => exact fun h => h.elim
  | cons p ps =>
    intro hw
    have h1 := h.new p (by rw [hp]; exact List.mem_cons_self)
    have h2 := hw.2.1
    omega
theorem Goes.restart {B : Nat} {w0 W : World} {J d first n c : Nat} {recs : List (List Nat)} (h : Goes B w0 J d first n c recs W) (hc : c + 64 ≤ 1000) :
    Calls Tryd.prog 16 #[.pointer (some ⟨J, 0, none⟩)] W fun e W' => e = .returned (.tuple #[]) ∧ ∃ nx, 1 ≤ nx ∧ nx ≤ 1064 ∧ Goes B w0 J d nx n (c + 64) [] W' ∧
      Calls Tryd.prog 24 #[.pointer (some ⟨J, 0, none⟩)] W' fun e W'' => e = .returned (.int .i64 (nx : Nat)) ∧ W' = W'' := by
  obtain ⟨Z, j, m, h⟩ := h
  have hj : JBox W J j.d j.from_ j.end_ j.at_ j.next j.torn := h.play.jat
  have hr := h.stood.room
  have hje := h.stood.je
  have hjf := h.stood.jf
  have hn := h.n64
  have hnx := h.next
  have hw := h.ws
  have hf := h.fs
  have hjl := h.play.jlt
  have hjB := h.play.jB
  refine (Restart_any W J _ j.from_ j.end_ j.at_ j.next j.torn hj.v).mono ?_
  rintro e W' ⟨rfl, rfl⟩
  have hj2 := hj.setAt j.from_
  rw [hjf] at hj2 ⊢
  have hb : Below B W (W.setCell ⟨J, 3, none⟩ (.int .i64 ((0 : Nat) : Int))) := (Below.refl _ W).setCell (p := ⟨J, 3, none⟩) hjB _
  have o : ∀ k, k ≠ J → (W.setCell ⟨J, 3, none⟩ (.int .i64 ((0 : Nat) : Int))).heap[k]? = W.heap[k]? := fun k hk => heap_setCell_other W ⟨J, 3, none⟩ k _ hk
  have hst := h.stood.anew
  refine ⟨rfl, j.next, Nat.le_trans h.stood.first1 h.stood.next, by omega, ⟨Z, { j with at_ := 0 }, m, ⟨h.play.bel.trans hb, h.play.dev.stays (fun k hk => o k (fun e => h.play.zj (e ▸ hk))) (by simp), ?_, h.play.zj, h.play.zB, h.play.jB, h.play.pick, ?_, h.play.nibB, h.play.bs⟩, hst, h.cut, h.jd, h.mn, by simp only; omega, by simp only; omega, by simp only; omega, hc, h.n64⟩, ?_⟩
  · show JBox _ J j.d j.from_ j.end_ 0 j.next j.torn
    rw [hjf]; exact hj2
  · exact fun q hq => (hb.cell (p := ⟨_, q, none⟩) h.play.nibB).trans (h.play.nib q hq)
  · exact Next_any _ J _ 0 j.end_ 0 j.next j.torn hj2.v
/-- It is opened anew. -/
theorem Goes.open {B : Nat} {w0 W : World} {J d first n c : Nat} {recs : List (List Nat)} (h : Goes B w0 J d first n c recs W) (hf : first ≤ maxNum) (h1 : 1 ≤ n) :
    Calls Tryd.prog 11 #[.pointer (some ⟨d, 0, none⟩), .int .i64 0, .int .i64 (n : Int), .int .i64 (first : Int)] W fun e W' => ∃ J' v, e = .returned (.tuple #[.pointer (some ⟨J', 0, none⟩), v, .int .i64 0]) ∧ OwnT W' W.heap.size v (recs.map strN) ∧ Below W.heap.size W W' := by
  obtain ⟨Z, j, m, h⟩ := h
  have := Open_ok W Z j.d m 0 n first h.play.dev (by have := h.stood.fits; omega) h1 ⟨h.stood.first1, hf⟩ h.stood.rest.power h.play.nib
  rw [h.jd, h.stood.told] at this
  refine this.mono ?_
  rintro e W' ⟨J', v, rfl, _, _, ho, hb⟩
  exact ⟨J', v, rfl, ho, hb⟩

end Go.Proofs.YtgdfdljgbogbnaaDoor.journal
