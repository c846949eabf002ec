/- A journal whose power may go, and the device that is left: for the loops of the laws. -/
import Derived.Test.YtgdfdljgbogbnaaDoorRows
import Derived.Test.YtgdfdljgbogbnaaDoorJournalGoing
import Derived.OwnWalk
namespace Go.Proofs.YtgdfdljgbogbnaaDoor.journal
open Go.RowKit
open Go.Proofs.YtgdfdljgbogbnaaDoor.kit Go.Proofs.YtgdfdljgbogbnaaDoor.own Go.Proofs.YtgdfdljgbogbnaaDoor.jm Go.Proofs.YtgdfdljgbogbnaaDoor.sector
open Go.Proofs.YtgdfdljgbogbnaaDoor.frame (Nib)
set_option linter.unusedVariables false

/-- A device whose cache is empty, with or without power: what its row tells; c bounds what was used. -/
structure Left (B : Nat) (w0 W : World) (d n c : Nat) (told : List (List Nat)) (Z : Nat → Prop) (m : Dev) : Prop where
  bel : Below B w0 W
  dev : DevAt W Z d m
  zB : ∀ k, Z k → B ≤ k
  pick : PickOk m
  nib : Nib W
  nibB : 0 < B
  bs : B ≤ w0.heap.size
  cache : m.cache = []
  stands : ∃ k, Stands 0 (pcsOf m 0 n) told k
  num : ∀ p ∈ pcsOf m 0 n, p.num < c
  mn : m.n = n
  ws : m.ws ≤ c
  fs : m.fs ≤ c
  n1 : 1 ≤ n
  n64 : n ≤ 64
def Held (B : Nat) (w0 : World) (d n c : Nat) (told : List (List Nat)) (pw : Option Bool) (W : World) : Prop := ∃ Z m, Left B w0 W d n c told Z m ∧ ∀ b, pw = some b → m.power = b
/-- A journal on it, between two appends. -/
structure Live (B : Nat) (w0 W : World) (J d n c : Nat) (told : List (List Nat)) (Z : Nat → Prop) (j : Jn) (m : Dev) : Prop where
  play : PlayAt B w0 W Z J j m
  stood : Stood 1 0 n told j m
  jd : j.d = d
  mn : m.n = n
  next : j.next ≤ c
  ws : m.ws ≤ c
  fs : m.fs ≤ c
  n1 : 1 ≤ n
  n64 : n ≤ 64
def Runs (B : Nat) (w0 : World) (J d n c : Nat) (told : List (List Nat)) (W : World) : Prop := ∃ Z j m, Live B w0 W J d n c told Z j m

theorem Held.bel {B : Nat} {w0 W : World} {d n c : Nat} {told : List (List Nat)} {pw : Option Bool} (h : Held B w0 d n c told pw W) : Below B w0 W := by
  obtain ⟨Z, m, h, _⟩ := h
  exact h.bel
theorem Runs.bel {B : Nat} {w0 W : World} {J d n c : Nat} {told : List (List Nat)} (h : Runs B w0 J d n c told W) : Below B w0 W := by
  obtain ⟨Z, j, m, h⟩ := h
  exact h.play.bel
theorem Runs.held {B : Nat} {w0 W : World} {J d n c : Nat} {told : List (List Nat)} (h : Runs B w0 J d n c told W) : Held B w0 d n c told none W := by
  obtain ⟨Z, j, m, h⟩ := h
  have hp := h.play
  obtain ⟨k, _, hs⟩ := h.stood.at_
  refine ⟨Z, m, ⟨hp.bel, by rw [← h.jd]; exact hp.dev, hp.zB, hp.pick, hp.nib, hp.nibB, hp.bs, h.stood.rest.cache, ⟨k, hs⟩, fun p hq => ?_, h.mn, h.ws, h.fs, h.n1, h.n64⟩, fun b hb => by cases hb⟩
  have := h.stood.new p hq
  have := h.next
  omega
theorem Held.any {B : Nat} {w0 W : World} {d n c : Nat} {told : List (List Nat)} {pw : Option Bool} (h : Held B w0 d n c told pw W) : Held B w0 d n c told none W := by
  obtain ⟨Z, m, h, _⟩ := h
  exact ⟨Z, m, h, fun b hb => by cases hb⟩
theorem Held.keep {B : Nat} {w0 W W' : World} {d n c : Nat} {told : List (List Nat)} {pw : Option Bool} (h : Held B w0 d n c told pw W) (hb : Below W.heap.size W W') : Held B w0 d n c told pw W' := by
  obtain ⟨Z, m, h, hp⟩ := h
  exact ⟨Z, m, ⟨h.bel.trans (hb.mono (Nat.le_trans h.bs h.bel.size)), h.dev.keep hb, h.zB, h.pick, h.nib.keep hb, h.nibB, h.bs, h.cache, h.stands, h.num, h.mn, h.ws, h.fs, h.n1, h.n64⟩, hp⟩
theorem Runs.keep {B : Nat} {w0 W W' : World} {J d n c : Nat} {told : List (List Nat)} (h : Runs B w0 J d n c told W) (hb : Below W.heap.size W W') : Runs B w0 J d n c told W' := by
  obtain ⟨Z, j, m, h⟩ := h
  exact ⟨Z, j, m, h.play.keep hb, h.stood, h.jd, h.mn, h.next, h.ws, h.fs, h.n1, h.n64⟩
theorem Runs.up {B : Nat} {w0 W : World} {J d n c c' : Nat} {told : List (List Nat)} (h : Runs B w0 J d n c told W) (hc : c ≤ c') : Runs B w0 J d n c' told W := by
  obtain ⟨Z, j, m, h⟩ := h
  exact ⟨Z, j, m, h.play, h.stood, h.jd, h.mn, Nat.le_trans h.next hc, Nat.le_trans h.ws hc, Nat.le_trans h.fs hc, h.n1, h.n64⟩
theorem stands_few {last : Nat} {ps : List Pc} {l : List (List Nat)} {k : Nat} (h : Stands last ps l k) : l.length ≤ k := by
  induction h with
  | stop _ => exact Nat.le_refl _
  | @more last ps l k h0 _ ih => have := need_pos (cnt ps); simp only [List.length_cons]; omega
theorem Runs.few {B : Nat} {w0 W : World} {J d n c : Nat} {told : List (List Nat)} (h : Runs B w0 J d n c told W) : told.length ≤ 64 := by
  obtain ⟨Z, j, m, h⟩ := h
  obtain ⟨k, _, hs⟩ := h.stood.at_
  have h1 := stands_few hs
  have h2 := hs.len
  rw [pcsOf_len] at h2
  have := h.n64
  omega
theorem Held.few {B : Nat} {w0 W : World} {d n c : Nat} {told : List (List Nat)} {pw : Option Bool} (h : Held B w0 d n c told pw W) : told.length ≤ 64 := by
  obtain ⟨Z, m, h, _⟩ := h
  obtain ⟨k, hs⟩ := h.stands
  have h1 := stands_few hs
  have h2 := hs.len
  rw [pcsOf_len] at h2
  have := h.n64
  omega

/-- What a device's own variable alone is turned by leaves texts as they are. -/
theorem own_turn {W W' : World} {Z : Nat → Prop} {d : Nat} {m : Dev} (h : DevAt W Z d m) (hty : ∀ k, Z k → ∃ cur t fz, W.heap[k]? = some (.cells cur t fz) ∧ t ≠ 9) (ht : Turn Z W W') :
    ∀ B' v ss, OwnT W B' v ss → OwnT W' B' v ss := by
  intro B' v ss ho
  refine ho.stays fun g hg => ?_
  obtain ⟨cur, hc⟩ := sector.own_type ho hg
  refine ht.block g (Array.getElem?_eq_some_iff.1 hc).1 (fun hz => ?_)
  obtain ⟨cur2, t2, fz2, h2, h3⟩ := hty g hz
  rw [hc] at h2
  cases h2
  exact h3 rfl
theorem pcs_look {m m' : Dev} (h : ∀ k, sector.look m' k = sector.look m k) (n : Nat) : pcsOf m' 0 n = pcsOf m 0 n := by
  refine List.ext_getElem? fun i => ?_
  by_cases hi : i < n
  · rw [pcsOf_at _ _ _ _ hi, pcsOf_at _ _ _ _ hi, h]
  · rw [List.getElem?_eq_none (by rw [pcsOf_len]; omega), List.getElem?_eq_none (by rw [pcsOf_len]; omega)]

/-- The power is to go behind so many writes. -/
theorem Runs.cut {B : Nat} {w0 W : World} {J d n c : Nat} {told : List (List Nat)} (h : Runs B w0 J d n c told W) (z p : Nat) (hz : z < 9223372036854775808) (hp : p < 18446744073709551616) :
    Calls Tryd.prog 18 #[.pointer (some ⟨d, 0, none⟩), .int .i64 z, .int .u64 p] W fun e W' => e = .returned (.tuple #[]) ∧ Runs B w0 J d n c told W' ∧ ∀ B' v ss, OwnT W B' v ss → OwnT W' B' v ss := by
  obtain ⟨Z, j, m, h⟩ := h
  obtain ⟨Zl, hdl, hsub, hty⟩ := DevAt.least h.play.dev
  have hjd := h.jd
  subst hjd
  refine (Cut_pos W Zl j.d m hdl h.stood.rest.power z p hz).mono ?_
  rintro e W' ⟨rfl, hd', ht⟩
  have hs := h.stood
  have hpl := h.play
  have hB0 := Nat.le_trans hpl.bs hpl.bel.size
  have hbel : Below B W W' := ⟨ht.os, ht.tape, ht.output, ht.size, fun k hk => ht.block k (by omega) (fun hz => by have := hpl.zB k (hsub k hz); omega)⟩
  refine ⟨rfl, ⟨Zl, j, _, ⟨hpl.bel.trans hbel, hd', ?_, fun hz => hpl.zj (hsub _ hz), fun k hz => hpl.zB k (hsub k hz), hpl.jB, ?_, fun q hq => (hbel.cell (p := ⟨_, q, none⟩) hpl.nibB).trans (hpl.nib q hq), hpl.nibB, hpl.bs⟩, ⟨⟨cut_some_ok hs.rest.ok z p hz, hs.rest.power, hs.rest.cache⟩, hs.fits, hs.jf, hs.je, hs.torn, ?_, hs.first1, hs.next, ?_⟩, rfl, h.mn, h.next, h.ws, h.fs, h.n1, h.n64⟩, own_turn hdl hty ht⟩
  · have : W'.heap[J]? = W.heap[J]? := ht.block J hpl.jlt (fun hz => hpl.zj (hsub _ hz))
    exact this.trans hpl.jat
  · intro q hq
    cases hq
    exact hp
  · have hq : pcsOf { m with cut := some (z, p) } 0 n = pcsOf m 0 n := pcs_look (fun k => rfl) n
    rw [hq]; exact hs.at_
  · have hq : pcsOf { m with cut := some (z, p) } 0 n = pcsOf m 0 n := pcs_look (fun k => rfl) n
    rw [hq]; exact hs.new
/-- The power comes back. -/
theorem Held.on {B : Nat} {w0 W : World} {d n c : Nat} {told : List (List Nat)} {pw : Option Bool} (h : Held B w0 d n c told pw W) :
    Calls Tryd.prog 20 #[.pointer (some ⟨d, 0, none⟩)] W fun e W' => e = .returned (.tuple #[]) ∧ Held B w0 d n c told (some true) W' ∧ ∀ B' v ss, OwnT W B' v ss → OwnT W' B' v ss := by
  obtain ⟨Z, m, h, _⟩ := h
  obtain ⟨Zl, hdl, hsub, hty⟩ := DevAt.least h.dev
  refine (On_any W Zl d m hdl (by have := h.n1; have := h.mn; omega)).mono ?_
  rintro e W' ⟨rfl, hd', ht⟩
  have hB0 := Nat.le_trans h.bs h.bel.size
  have hbel : Below B W W' := ⟨ht.os, ht.tape, ht.output, ht.size, fun k hk => ht.block k (by omega) (fun hz => by have := h.zB k (hsub k hz); omega)⟩
  refine ⟨rfl, ⟨Zl, _, ⟨h.bel.trans hbel, hd', fun k hz => h.zB k (hsub k hz), fun q hq => h.pick q hq, fun q hq => (hbel.cell (p := ⟨_, q, none⟩) h.nibB).trans (h.nib q hq), h.nibB, h.bs, h.cache, ?_, ?_, h.mn, h.ws, h.fs, h.n1, h.n64⟩, fun b hb => by cases hb; rfl⟩, own_turn hdl hty ht⟩
  · have hq : pcsOf { m with power := true } 0 n = pcsOf m 0 n := pcs_look (fun k => rfl) n
    rw [hq]; exact h.stands
  · have hq : pcsOf { m with power := true } 0 n = pcsOf m 0 n := pcs_look (fun k => rfl) n
    rw [hq]; exact h.num
theorem gmax_lt {V : List Pc} {c : Nat} (h : ∀ p ∈ V, p.num < c) (hc : 1 ≤ c) : gmax V + 1 ≤ c := by
  have : ∀ (V : List Pc) (a : Nat), a < c → (∀ p ∈ V, p.num < c) → V.foldl (fun a p => max a p.num) a < c := by
    intro V
    induction V with
    | nil => intro a ha _; exact ha
    | cons q V ih =>
      intro a ha hv
      rw [List.foldl_cons]
      exact ih _ (by have := hv q List.mem_cons_self; omega) fun p hp => hv p (List.mem_cons_of_mem _ hp)
  exact this V 0 (by omega) h
/-- It is opened. -/
theorem Held.open {B : Nat} {w0 W : World} {d n c : Nat} {told : List (List Nat)} (h : Held B w0 d n c told (some true) W) (hc : 1 ≤ c) :
    Calls Tryd.prog 11 #[.pointer (some ⟨d, 0, none⟩), .int .i64 0, .int .i64 (n : Int), .int .i64 1] W fun e W' => ∃ J' v, e = .returned (.tuple #[.pointer (some ⟨J', 0, none⟩), v, .int .i64 0]) ∧ OwnT W' W.heap.size v (told.map strN) ∧ Below W.heap.size W W' ∧ Runs B w0 J' d n c told W' := by
  obtain ⟨Z, m, h, hpw⟩ := h
  have hpw := hpw true rfl
  have ho := Open_ok W Z d m 0 n 1 h.dev (by have := h.mn; omega) h.n1 ⟨by omega, by unfold maxNum; omega⟩ hpw h.nib
  obtain ⟨k, hs⟩ := h.stands
  have hst := stand_eq (first := 1) (pcsOf_ok h.dev.1 0 n (by have := h.mn; omega)) hs
  rw [hst] at ho
  have hso := stood_open (m := m) ⟨h.dev.1, hpw, h.cache⟩ d 1 0 n (by have := h.mn; omega) (by omega)
  rw [hst] at hso
  have hg := gmax_lt h.num hc
  have hB0 := Nat.le_trans h.bs h.bel.size
  refine ho.mono ?_
  rintro e W' ⟨J', v, rfl, hj, hJ, hown, hb⟩
  refine ⟨J', v, rfl, hown, hb, Z, _, m, ⟨h.bel.trans (hb.mono hB0), h.dev.keep hb, hj, fun hz => ?_, h.zB, by omega, h.pick, h.nib.keep hb, h.nibB, h.bs⟩, hso, rfl, h.mn, by simp only; omega, h.ws, h.fs, h.n1, h.n64⟩
  have := h.dev.lt _ hz
  omega

/-- What an append comes to. -/
inductive Came (B : Nat) (w0 : World) (J d n c : Nat) (told : List (List Nat)) (s : List Nat) : Ending → World → Prop
  | good {W} : Runs B w0 J d n (c + 64) (told ++ [s]) W → Came B w0 J d n c told s (.returned (.int .i64 0)) W
  | full {W} : Runs B w0 J d n c told W → Came B w0 J d n c told s (.returned (.int .i64 21)) W
  | gone {W} : Held B w0 d n (c + 64) told none W ∨ Held B w0 d n (c + 64) (told ++ [s]) none W → Came B w0 J d n c told s (.returned (.int .i64 22)) W
theorem Runs.step {B : Nat} {w0 W : World} {J d n c : Nat} {told : List (List Nat)} (h : Runs B w0 J d n c told W) (s : ByteArray) (hs : s.size ≤ 9223372036854775807) (hc : c + 3000000 < 4611686018427387904) :
    Calls Tryd.prog 14 #[.pointer (some ⟨J, 0, none⟩), .string s] W fun e W' => Came B w0 J d n c told (byN s) e W' ∧ ∀ B' v ss, OwnT W B' v ss → OwnT W' B' v ss := by
  obtain ⟨Z, j, m, h⟩ := h
  have hr := h.stood.room
  have hje := h.stood.je
  have hn := h.n64
  have hnx := h.next
  have hw := h.ws
  have hf := h.fs
  have hlen : (byN s).length = s.size := by have := strN_size (byN s); rw [strN_byN] at this; exact this.symm
  have h8 : ∀ x ∈ byN s, x < 256 := byN_lt s
  have := h.play.append2 (byN s) h8 (by omega) (by omega) hr (by omega) (by omega) (by omega)
  rw [strN_byN] at this
  refine this.mono ?_
  rintro e W' ⟨rfl, ⟨Z', hp⟩, hown⟩
  refine ⟨?_, hown⟩
  by_cases hl : leftV j.end_ j.at_ j.next < need (byN s).length
  · obtain ⟨g1, g2, g3⟩ := h.stood.full hl
    rw [g2, g3] at hp
    rw [g1]
    exact .full ⟨Z', j, m, hp, h.stood, h.jd, h.mn, by omega, by omega, by omega, h.n1, h.n64⟩
  · have hnp := need_pos (byN s).length
    have hno : ¬ (j.torn = true ∨ m.power = false) := by rw [h.stood.torn, h.stood.rest.power]; simp
    have hnd : need (byN s).length ≤ 64 := by unfold leftV at hl; split at hl <;> omega
    have e1 : appendE j (byN s) m = if (appD j.next (byN s) j.at_ m).2 then 0 else 22 := by unfold appendE; rw [if_neg hno, if_neg hl]
    have e2 : appendJ j (byN s) m = if (appD j.next (byN s) j.at_ m).2 then { j with at_ := j.at_ + need (byN s).length, next := j.next + 1 } else { j with torn := true } := by unfold appendJ; rw [if_neg hno, if_neg hl]
    have e3 : appendM j (byN s) m = (appD j.next (byN s) j.at_ m).1 := by unfold appendM; rw [if_neg hno, if_neg hl]
    rw [e2, e3] at hp
    rw [e1]
    rcases h.stood.app h8 hl (by omega) (by omega) with ⟨a1, a2, a3⟩ | ⟨a1, a2, a3⟩
    · rw [a1] at hp ⊢
      obtain ⟨b1, b2, b3, b4, b5, b6, b7, b8⟩ := a2
      simp only [if_true] at hp
      exact .good ⟨Z', _, _, hp, a3, h.jd, b4.trans h.mn, by simp only; omega, by omega, by omega, h.n1, h.n64⟩
    · rw [a1] at hp ⊢
      obtain ⟨b1, b2, b3, b4, b5, b6, b7, b8, b9⟩ := a2
      have hleft : ∀ told', (∃ k, Stands 0 (pcsOf (appD j.next (byN s) j.at_ m).1 0 n) told' k) → Held B w0 d n (c + 64) told' none W' := fun told' hst => by
        refine ⟨Z', _, ⟨hp.bel, by have := hp.dev; simp only [if_false, Bool.false_eq_true] at this; rw [← h.jd]; exact this, hp.zB, hp.pick, hp.nib, hp.nibB, hp.bs, b3, hst, ?_, b4.trans h.mn, by omega, by omega, h.n1, h.n64⟩, fun b hb => by cases hb⟩
        intro p hq
        obtain ⟨i, hi⟩ := List.getElem?_of_mem hq
        have hin : i < n := by have := (List.getElem?_eq_some_iff.1 hi).1; rw [pcsOf_len] at this; exact this
        rw [pcsOf_at _ _ _ _ hin] at hi
        have hi := Option.some.inj hi
        rcases b9 (0 + i) with h3 | ⟨h3, h4, h5⟩
        · rw [h3] at hi
          have := h.stood.new p (by rw [← hi]; exact List.mem_of_getElem? (pcsOf_at m 0 n i hin))
          omega
        · have hn1 : 1 ≤ j.next := Nat.le_trans h.stood.first1 h.stood.next
          have hnx2 : j.next ≤ maxNum := by unfold maxNum; omega
          rw [h5, pcOf_piece _ _ _ hn1 hnx2] at hi
          rw [← hi]
          simp only; omega
      rcases a3 with ⟨k, hk⟩ | ⟨k, hk⟩
      · exact .gone (.inl (hleft _ ⟨k, hk⟩))
      · exact .gone (.inr (hleft _ ⟨k, hk⟩))
/-- What turns rows of texts of the call's own alone. -/
theorem Runs.kept {B : Nat} {w0 W W' : World} {J d n c : Nat} {told : List (List Nat)} (h : Runs B w0 J d n c told W) (hk : Kept B 9 W W') : Runs B w0 J d n c told W' := by
  obtain ⟨Z, j, m, h⟩ := h
  obtain ⟨ok, vo, vb, vl, hl⟩ := h.play.dev
  have ho := hl.order
  unfold OwnI at ho
  refine ⟨Z, j, m, ⟨h.play.bel.trans hk.toBelow, ⟨ok, vo, vb, vl, hk.box (by decide) hl.box, ?_, own_kept hl.blocks (by decide) hk, own_kept hl.laid (by decide) hk, hl.apart, hl.zd, hl.zo, hl.zb, hl.zl, fun k hz => Nat.lt_of_lt_of_le (hl.zlt k hz) hk.size⟩, hk.box (by decide) h.play.jat, h.play.zj, h.play.zB, h.play.jB, h.play.pick, ?_, h.play.nibB, h.play.bs⟩, h.stood, h.jd, h.mn, h.next, h.ws, h.fs, h.n1, h.n64⟩
  · unfold OwnI
    exact own_kept ho (by decide) hk
  · exact fun q hq => (hk.toBelow.cell (p := ⟨_, q, none⟩) h.play.nibB).trans (h.play.nib q hq)
theorem Held.kept {B : Nat} {w0 W W' : World} {d n c : Nat} {told : List (List Nat)} {pw : Option Bool} (h : Held B w0 d n c told pw W) (hk : Kept B 9 W W') : Held B w0 d n c told pw W' := by
  obtain ⟨Z, m, h, hp⟩ := h
  obtain ⟨ok, vo, vb, vl, hl⟩ := h.dev
  have ho := hl.order
  unfold OwnI at ho
  refine ⟨Z, m, ⟨h.bel.trans hk.toBelow, ⟨ok, vo, vb, vl, hk.box (by decide) hl.box, ?_, own_kept hl.blocks (by decide) hk, own_kept hl.laid (by decide) hk, hl.apart, hl.zd, hl.zo, hl.zb, hl.zl, fun k hz => Nat.lt_of_lt_of_le (hl.zlt k hz) hk.size⟩, h.zB, h.pick, ?_, h.nibB, h.bs, h.cache, h.stands, h.num, h.mn, h.ws, h.fs, h.n1, h.n64⟩, hp⟩
  · unfold OwnI
    exact own_kept ho (by decide) hk
  · exact fun q hq => (hk.toBelow.cell (p := ⟨_, q, none⟩) h.nibB).trans (h.nib q hq)

/-- A guarded operation that is wanted is carried out as one without a guard. -/
theorem wpList_free {P : Program} {ops : Array Oper} {Q : Exit → Act → World → Prop} {a : Act} {w : World} {rest : List Oper} {o : Oper} (hw : Region.wanted o (yielded ops a.tmps) = true)
    (h : wpList P ops Q ({ o with guard := none } :: rest) a w) : wpList P ops Q (o :: rest) a w := by
  have hn : Region.wanted { o with guard := none } (yielded ops a.tmps) = true := rfl
  unfold wpList at h ⊢
  rw [if_pos hw]
  rw [if_pos hn] at h
  exact h
theorem heap_alloc_lt (w : World) (o : Obj) {k : Nat} (hk : k < w.heap.size) : (w.alloc o).heap[k]? = w.heap[k]? := ((Below.refl w.heap.size w).alloc (Nat.le_refl _) o).block k hk
/-- A row that was made behind another's world lies elsewhere. -/
theorem OwnT.newer {W W' : World} {B : Nat} {u v : Value} {ss tt : List ByteArray} (hu : OwnT W B u ss) (hv : OwnT W' W.heap.size v tt) : ∀ g, v.ownBlock = some g → u.ownBlock ≠ some g := by
  intro g hg hg'
  obtain ⟨cur, hc⟩ := sector.own_type hu hg'
  have h1 := (Array.getElem?_eq_some_iff.1 hc).1
  have h2 := (World.ownsRow.lt hv g hg).1
  omega
/-- 'l = append(l, s)' of one text. -/
theorem app1T {P : Program} {wr : World} {ops : Array Oper} {rest : List Oper} {o : Oper} {a : Act} {Q : Exit → Act → World → Prop} (hgd : o.guard = none) (s x : Operand) (t : TypeId)
    (ho : o.op = .call { callee := .builtin .append, args := #[s, x], argTypes := #[t, t] })
    (B : Nat) (ht : P.underlying t = some (.slice 9)) (hi : (P.info? 9).map (fun i => (i.zero, i.size, i.bytes)) = some (some (.string .empty), 1, 16))
    (v : Value) (ss : List ByteArray) (hs : a.eval s = v) (hown : OwnT wr B v ss) (c : ByteArray) (k : Nat) (hn : k = wr.heap.size) (hx : a.eval x = .slice (some ⟨k, 0, none⟩) 1 1)
    (h63 : ss.length + 1 ≤ maxLen) (hb : (ss.length + 1) * 16 ≤ 140737488355328) (hB : B ≤ wr.heap.size)
    (h : ∀ v' w', OwnT w' B v' (ss ++ [c]) → Kept B 9 wr w' → (∀ k, k < wr.heap.size → v.ownBlock ≠ some k → w'.heap[k]? = wr.heap[k]?) → wpList P ops Q rest (a.put o.dst v') w') : wpList P ops Q (o :: rest) a (wr.alloc (.cells #[.string c] 9)) := by
  subst hn
  obtain ⟨i0, hi, hz0, hz1, hz2⟩ := info_parts hi
  have hown2 : OwnT (wr.alloc (.cells #[.string c] 9)) B v ss := hown.below ((Below.refl _ _).alloc (Nat.le_refl _) _)
  refine wpList_append_own _ hgd s x t ho B 9 i0 (.string .empty) 1 16 ht hi hz0 hz1 hz2 rfl (by decide) v ss.length (ss.map Value.string) hs hown2 ⟨wr.heap.size, 0, none⟩ 1 1 [.string c] hx rfl ?_ ?_ h63 hb (by simp; omega) ?_
  · intro j u hj
    match j, hj with
    | 0, hj => simp at hj; subst hj; rw [add_plain', World.cell?_alloc_at _ _ _ _ rfl]; rfl
  · intro u hu; simp at hu; subst hu; rfl
  · intro v' w' hown' hg _
    refine h v' w' ?_ ((Kept.of_below hB ((Below.refl _ _).alloc (Nat.le_refl _) _)).trans (Kept.grown (by simp; omega) hown2 hg)) (fun k hk hn => (hg.block k (by simp; omega) (fun e => hn e.symm)).trans (heap_alloc_lt wr _ hk))
    unfold OwnT
    simpa using hown'
/-- 'l = append(l, m...)' of a row of texts of the call's own. -/
theorem appT {P : Program} {wr : World} {ops : Array Oper} {rest : List Oper} {o : Oper} {a : Act} {Q : Exit → Act → World → Prop} (hgd : o.guard = none) (s x : Operand) (t : TypeId)
    (ho : o.op = .call { callee := .builtin .append, args := #[s, x], argTypes := #[t, t] })
    (B : Nat) (ht : P.underlying t = some (.slice 9)) (hi : (P.info? 9).map (fun i => (i.zero, i.size, i.bytes)) = some (some (.string .empty), 1, 16))
    (v : Value) (ss : List ByteArray) (hs : a.eval s = v) (hown : OwnT wr B v ss) (b off m c : Nat) (ms : List ByteArray) (hm : ms.length = m) (hx : a.eval x = .slice (some ⟨b, off, none⟩) m c)
    (hcell : ∀ j (h : j < ms.length), wr.cell? ⟨b, off + j, none⟩ = some (.string ms[j]))
    (h63 : ss.length + m ≤ maxLen) (hb : (ss.length + m) * 16 ≤ 140737488355328) (hB : B ≤ wr.heap.size)
    (h : ∀ v' w', OwnT w' B v' (ss ++ ms) → Kept B 9 wr w' → wpList P ops Q rest (a.put o.dst v') w') : wpList P ops Q (o :: rest) a wr := by
  obtain ⟨i0, hi, hz0, hz1, hz2⟩ := info_parts hi
  refine wpList_append_own wr hgd s x t ho B 9 i0 (.string .empty) 1 16 ht hi hz0 hz1 hz2 rfl (by decide) v ss.length (ss.map Value.string) hs hown ⟨b, off, none⟩ m c (ms.map Value.string) hx (by simp [hm]) ?_ ?_ h63 hb hB ?_
  · intro j u hu
    have hj : j < ms.length := by simpa using (List.getElem?_eq_some_iff.1 hu).1
    rw [add_plain', hcell j hj]
    rw [← hu]; simp [hj]
  · intro u hu
    obtain ⟨_, _, rfl⟩ := List.mem_map.1 hu
    rfl
  · intro v' w' hown' hg _
    refine h v' w' ?_ (Kept.grown hB hown hg)
    unfold OwnT
    simpa [hm] using hown'

end Go.Proofs.YtgdfdljgbogbnaaDoor.journal
