/- Texts laid together: JournalOpenE, JournalPair, JournalSteps, JournalLift, JournalActs. -/
import Derived.Test.YtkhghkklekjdaaaDoorRows
import Derived.Test.YtkhghkklekjdaaaDoorJournalOpen
import Derived.Test.YtkhghkklekjdaaaDoorJournalROpen
import Derived.Test.YtkhghkklekjdaaaDoorJournalMA
import Derived.Test.YtkhghkklekjdaaaDoorSectorAll
import Derived.Test.YtkhghkklekjdaaaDoorJournalZeros
import Derived.Test.YtkhghkklekjdaaaDoorCards
import Derived.Test.YtkhghkklekjdaaaDoorTie
import Derived.Test.YtkhghkklekjdaaaDoorFrameSum
import Derived.Test.YtkhghkklekjdaaaDoorLift
import Derived.Deep.DeepHandedRow
import Derived.Lib.LaidTab
import Derived.LaidSub
import Derived.SevenTiedAt
import Derived.Test.YtkhghkklekjdaaaDoorSectorLift
namespace Go.Proofs.YtkhghkklekjdaaaDoor.journal
open Go.RowKit
open Go.Proofs.YtkhghkklekjdaaaDoor.kit Go.Proofs.YtkhghkklekjdaaaDoor.own Go.Proofs.YtkhghkklekjdaaaDoor.jm Go.Proofs.YtkhghkklekjdaaaDoor.iter
open Go.Proofs.YtkhghkklekjdaaaDoor.sector (Dev DevAt RAt rCells)
set_option linter.unusedVariables false

/-- What no journal is opened for. -/
def badO (N : Nat) (fr cn fi : Int) : Prop := fr < 0 ∨ cn < 1 ∨ (N : Int) - cn < fr ∨ fi < 1 ∨ 4611686018427387904 < fi
/-- No journal, no records, an error. -/
def NoJ (w : World) (c : Int) (e : Ending) (w' : World) : Prop := e = .returned (.tuple #[.pointer none, .slice none 0 0, .int .i64 c]) ∧ w = w'

set_option maxHeartbeats 4000000 in
set_option maxRecDepth 100000 in
theorem Open_bad (w : World) (Z : Nat → Prop) (d : Nat) (m : Dev) (hd : DevAt w Z d m) (fr cn fi : Int) (hc : cn ≤ 9223372036854775807) (h : badO m.n fr cn fi) :
    Calls Tryd.prog 11 #[.pointer (some ⟨d, 0, none⟩), .int .i64 fr, .int .i64 cn, .int .i64 fi] w (NoJ w 20) := by
  have HSc := Lib.hid (sector.Sectors_any w Z d m hd)
  have hmn := hd.1.n
  unfold badO at h
  obtain ⟨mi, hmi⟩ : ∃ mi, (m.n : Int) = mi := ⟨_, rfl⟩
  have h0 : 0 ≤ mi ∧ mi ≤ 4096 := by omega
  rw [hmi] at HSc h
  clear hd hmi hmn
  by_cases c1 : fr < 0
  · clear h hc h0
    go_enter Tryd.func11, Tryd.ntmps11
    go_wp2_with fail
    refine HSc.out.mono ?_
    rintro e w' ⟨rfl, rfl⟩
    go_wp2
    go_ret3
    exact ⟨rfl, rfl⟩
  by_cases c2 : cn < 1
  · clear h hc h0
    go_enter Tryd.func11, Tryd.ntmps11
    go_wp2_with fail
    refine HSc.out.mono ?_
    rintro e w' ⟨rfl, rfl⟩
    go_wp2
    go_ret3
    exact ⟨rfl, rfl⟩
  obtain ⟨q, hq⟩ : ∃ q, mi - cn = q := ⟨_, rfl⟩
  have e1 : True → wrap64 (mi - cn) = q := fun _ => by unfold wrap64; omega
  rw [hq] at h
  by_cases c3 : q < fr
  · clear h hc h0 hq
    go_enter Tryd.func11, Tryd.ntmps11
    go_wp2_with fail
    refine HSc.out.mono ?_
    rintro e w' ⟨rfl, rfl⟩
    go_wp2
    go_ret3
    exact ⟨rfl, rfl⟩
  by_cases c4 : fi < 1
  · clear h hc h0 hq
    go_enter Tryd.func11, Tryd.ntmps11
    go_wp2_with fail
    refine HSc.out.mono ?_
    rintro e w' ⟨rfl, rfl⟩
    go_wp2
    go_ret3
    exact ⟨rfl, rfl⟩
  have c5 : (4611686018427387904 : Int) < fi := by omega
  clear h hc h0 hq
  go_enter Tryd.func11, Tryd.ntmps11
  go_wp2_with fail
  refine HSc.out.mono ?_
  rintro e w' ⟨rfl, rfl⟩
  go_wp2
  go_ret3
  exact ⟨rfl, rfl⟩

set_option maxHeartbeats 4000000 in
set_option maxRecDepth 100000 in
theorem Open_dead (w : World) (Z : Nat → Prop) (d : Nat) (m : Dev) (hd : DevAt w Z d m) (fr cn fi : Int) (hc : cn ≤ 9223372036854775807) (h : ¬ badO m.n fr cn fi) (hp : m.power = false) :
    Calls Tryd.prog 11 #[.pointer (some ⟨d, 0, none⟩), .int .i64 fr, .int .i64 cn, .int .i64 fi] w (NoJ w 22) := by
  have HSc := Lib.hid (sector.Sectors_any w Z d m hd)
  have HDd := Lib.hid (sector.Dead_any w Z d m hd)
  rw [hp] at HDd
  have hmn := hd.1.n
  unfold badO at h
  obtain ⟨mi, hmi⟩ : ∃ mi, (m.n : Int) = mi := ⟨_, rfl⟩
  have h0 : 0 ≤ mi ∧ mi ≤ 4096 := by omega
  rw [hmi] at HSc h
  obtain ⟨q, hq⟩ : ∃ q, mi - cn = q := ⟨_, rfl⟩
  have c1 : ¬ fr < 0 := fun h1 => h (.inl h1)
  have c2 : ¬ cn < 1 := fun h1 => h (.inr (.inl h1))
  have c3 : ¬ q < fr := fun h1 => h (.inr (.inr (.inl (by omega))))
  have c4 : ¬ fi < 1 := fun h1 => h (.inr (.inr (.inr (.inl h1))))
  have c5 : ¬ (4611686018427387904 : Int) < fi := fun h1 => h (.inr (.inr (.inr (.inr h1))))
  have e1 : True → wrap64 (mi - cn) = q := fun _ => by unfold wrap64; omega
  clear hd hmi hmn h hc h0 hq hp
  go_enter Tryd.func11, Tryd.ntmps11
  go_wp2_with fail
  refine HSc.out.mono ?_
  rintro e w' ⟨rfl, rfl⟩
  go_wp2_with fail
  refine HDd.out.mono ?_
  rintro e w' ⟨rfl, rfl⟩
  go_wp2
  go_ret3
  exact ⟨rfl, rfl⟩

set_option maxHeartbeats 4000000 in
set_option maxRecDepth 100000 in
theorem rOpen_bad (w : World) (Y : Nat → Prop) (r : Nat) (m : Dev) (hr : RAt w Y r m) (fr cn fi : Int) (hc : cn ≤ 9223372036854775807) (h : badO m.n fr cn fi) :
    Calls Tryd.prog 12 #[.pointer (some ⟨r, 0, none⟩), .int .i64 fr, .int .i64 cn, .int .i64 fi] w (NoJ w 20) := by
  have HSc := Lib.hid (sector.rSectors_any w Y r m hr)
  have hmn := hr.1.n
  unfold badO at h
  obtain ⟨ho, vd, vc, pk, hl⟩ := hr
  have k0 := hl.cell 0
  simp [rCells] at k0
  obtain ⟨mi, hmi⟩ : ∃ mi, (m.n : Int) = mi := ⟨_, rfl⟩
  have h0 : 0 ≤ mi ∧ mi ≤ 4096 := by omega
  rw [hmi] at HSc h
  clear ho hl hmi hmn
  by_cases c1 : fr < 0
  · clear h hc h0
    go_enter Tryd.func12, Tryd.ntmps12
    go_wp2
    go_ret3
    exact ⟨rfl, rfl⟩
  by_cases c2 : cn < 1
  · clear h hc h0
    go_enter Tryd.func12, Tryd.ntmps12
    go_wp2
    go_ret3
    exact ⟨rfl, rfl⟩
  by_cases c3 : mi < fr
  · have d3 : True → decide (mi < fr) = true := fun _ => decide_eq_true c3
    clear h hc h0
    go_enter Tryd.func12, Tryd.ntmps12
    go_wp2_with fail
    refine HSc.out.mono ?_
    rintro e w' ⟨rfl, rfl⟩
    go_wp2
    go_ret3
    exact ⟨rfl, rfl⟩
  have d3 : True → decide (mi < fr) = false := fun _ => decide_eq_false c3
  obtain ⟨q, hq⟩ : ∃ q, mi - fr = q := ⟨_, rfl⟩
  have e1 : True → wrap64 (mi - fr) = q := fun _ => by unfold wrap64; omega
  by_cases c4 : q < cn
  · have d4 : True → decide (q < cn) = true := fun _ => decide_eq_true c4
    clear h hc h0 hq
    go_enter Tryd.func12, Tryd.ntmps12
    go_wp2_with fail
    refine HSc.out.mono ?_
    rintro e w' ⟨rfl, rfl⟩
    go_wp2_with fail
    refine HSc.out.mono ?_
    rintro e w' ⟨rfl, rfl⟩
    go_wp2
    go_ret3
    exact ⟨rfl, rfl⟩
  have d4 : True → decide (q < cn) = false := fun _ => decide_eq_false c4
  by_cases c5 : fi < 1
  · have d5 : True → decide (fi < 1) = true := fun _ => decide_eq_true c5
    clear h hc h0 hq
    go_enter Tryd.func12, Tryd.ntmps12
    go_wp2_with fail
    refine HSc.out.mono ?_
    rintro e w' ⟨rfl, rfl⟩
    go_wp2_with fail
    refine HSc.out.mono ?_
    rintro e w' ⟨rfl, rfl⟩
    go_wp2
    go_ret3
    exact ⟨rfl, rfl⟩
  have d5 : True → decide (fi < 1) = false := fun _ => decide_eq_false c5
  have d6 : True → decide ((4611686018427387904 : Int) < fi) = true := fun _ => decide_eq_true (by omega)
  clear h hc h0 hq
  go_enter Tryd.func12, Tryd.ntmps12
  go_wp2_with fail
  refine HSc.out.mono ?_
  rintro e w' ⟨rfl, rfl⟩
  go_wp2_with fail
  refine HSc.out.mono ?_
  rintro e w' ⟨rfl, rfl⟩
  go_wp2
  go_ret3
  exact ⟨rfl, rfl⟩

set_option maxHeartbeats 4000000 in
set_option maxRecDepth 100000 in
theorem rOpen_dead (w : World) (Y : Nat → Prop) (r : Nat) (m : Dev) (hr : RAt w Y r m) (fr cn fi : Int) (hc : cn ≤ 9223372036854775807) (h : ¬ badO m.n fr cn fi) (hp : m.power = false) :
    Calls Tryd.prog 12 #[.pointer (some ⟨r, 0, none⟩), .int .i64 fr, .int .i64 cn, .int .i64 fi] w (NoJ w 22) := by
  have HSc := Lib.hid (sector.rSectors_any w Y r m hr)
  have hmn := hr.1.n
  unfold badO at h
  obtain ⟨ho, vd, vc, pk, hl⟩ := hr
  have k0 := hl.cell 0
  have k3 := hl.cell 3
  simp [rCells, hp] at k0 k3
  obtain ⟨mi, hmi⟩ : ∃ mi, (m.n : Int) = mi := ⟨_, rfl⟩
  have h0 : 0 ≤ mi ∧ mi ≤ 4096 := by omega
  rw [hmi] at HSc h
  obtain ⟨q, hq⟩ : ∃ q, mi - fr = q := ⟨_, rfl⟩
  have c1 : ¬ fr < 0 := fun h1 => h (.inl h1)
  have c2 : ¬ cn < 1 := fun h1 => h (.inr (.inl h1))
  have c3 : ¬ mi < fr := fun h1 => h (.inr (.inr (.inl (by omega))))
  have c4 : ¬ q < cn := fun h1 => h (.inr (.inr (.inl (by omega))))
  have d3 : True → decide (mi < fr) = false := fun _ => decide_eq_false c3
  have d4 : True → decide (q < cn) = false := fun _ => decide_eq_false c4
  have d5 : True → decide (fi < 1) = false := fun _ => decide_eq_false (fun h1 => h (.inr (.inr (.inr (.inl h1)))))
  have d6 : True → decide ((4611686018427387904 : Int) < fi) = false := fun _ => decide_eq_false (fun h1 => h (.inr (.inr (.inr (.inr h1)))))
  have e1 : True → wrap64 (mi - fr) = q := fun _ => by unfold wrap64; omega
  clear ho hl hmi hmn h hc h0 hq hp
  go_enter Tryd.func12, Tryd.ntmps12
  go_wp2_with fail
  refine HSc.out.mono ?_
  rintro e w' ⟨rfl, rfl⟩
  go_wp2_with fail
  refine HSc.out.mono ?_
  rintro e w' ⟨rfl, rfl⟩
  go_wp2
  go_ret3
  exact ⟨rfl, rfl⟩

end Go.Proofs.YtkhghkklekjdaaaDoor.journal

namespace Go.Proofs.YtkhghkklekjdaaaDoor.journal
open Go.RowKit
open Go.Proofs.YtkhghkklekjdaaaDoor.kit Go.Proofs.YtkhghkklekjdaaaDoor.own Go.Proofs.YtkhghkklekjdaaaDoor.jm Go.Proofs.YtkhghkklekjdaaaDoor.iter
open Go.Proofs.YtkhghkklekjdaaaDoor.frame (Nib)
open Go.Proofs.YtkhghkklekjdaaaDoor.sector (Dev DevAt RAt Both Turn More PickOk strN wErr wDev fErr fDev wDev_more fDev_more more_ge Does Does0 RDoes RDoes0)
set_option linter.unusedVariables false

/-- Both journals, on both devices, at the same place. -/
structure Pair (w0 w : World) (d r J K f n c : Nat) (m : Dev) (Z Y : Nat → Prop) (a num : Nat) (bad : Bool) : Prop where
  both : Both w0 w d r m Z Y
  jr : JAt w J ⟨d, f, f + n, f + a, num, bad⟩
  rj : RJ w K r f n a num bad
  zj : ¬ Z J
  zk : ¬ Z K
  yj : ¬ Y J
  yk : ¬ Y K
  jk : J ≠ K
  ja : w0.heap.size ≤ J
  ka : w0.heap.size ≤ K
  an : a ≤ n
  fn : f + n ≤ m.n
  num1 : num ≤ maxNum + 1
  ws : m.ws ≤ c
  fs : m.fs ≤ c
theorem JAt.lt {w : World} {J : Nat} {j : Jn} (h : JAt w J j) : J < w.heap.size := (Array.getElem?_eq_some_iff.1 (show w.heap[J]? = some _ from h)).1
theorem JAt.keep {w w' : World} {J : Nat} {j : Jn} (h : JAt w J j) (hb : w'.heap[J]? = w.heap[J]?) : JAt w' J j := by
  have h' : w.heap[J]? = some _ := h
  exact hb.trans h'
theorem Pair.keep {w0 w w' : World} {d r J K f n c : Nat} {m : Dev} {Z Y : Nat → Prop} {a num : Nat} {bad : Bool} (h : Pair w0 w d r J K f n c m Z Y a num bad) (hb : Below w.heap.size w w') : Pair w0 w' d r J K f n c m Z Y a num bad :=
  ⟨h.both.keep hb, JAt.keep h.jr (hb.block J h.jr.lt), h.rj.keep hb, h.zj, h.zk, h.yj, h.yk, h.jk, h.ja, h.ka, h.an, h.fn, h.num1, h.ws, h.fs⟩
theorem Pair.weak {w0 w : World} {d r J K f n c : Nat} {m : Dev} {Z Y : Nat → Prop} {a num : Nat} {bad : Bool} (h : Pair w0 w d r J K f n c m Z Y a num bad) {c' : Nat} (hc : c ≤ c') : Pair w0 w d r J K f n c' m Z Y a num bad :=
  ⟨h.both, h.jr, h.rj, h.zj, h.zk, h.yj, h.yk, h.jk, h.ja, h.ka, h.an, h.fn, h.num1, Nat.le_trans h.ws hc, Nat.le_trans h.fs hc⟩

/-- The document's side, behind the program's step. -/
theorem Pair.mid {w0 w w1 : World} {d r J K f n c : Nat} {m : Dev} {Z Y : Nat → Prop} {a num : Nat} {bad : Bool} (h : Pair w0 w d r J K f n c m Z Y a num bad) (ht : Turn (fun k => Z k ∨ k = J) w w1) :
    RAt w1 Y r m ∧ RJ w1 K r f n a num bad := by
  refine ⟨h.both.doc.stays (fun k hk => ht.block k (h.both.doc.lt k hk) (fun hz => ?_)) ht.size, (ht.block K h.rj.lt (fun hz => ?_)).trans h.rj⟩
  · rcases hz with hz | rfl
    · exact h.both.apart k hz hk
    · exact h.yj hk
  · rcases hz with hz | hz
    · exact h.zk hz
    · exact h.jk hz.symm
/-- Both have gone on. -/
theorem Pair.move {w0 w w1 w2 : World} {d r J K f n c : Nat} {m : Dev} {Z Y : Nat → Prop} {a num : Nat} {bad : Bool} (h : Pair w0 w d r J K f n c m Z Y a num bad)
    {m' : Dev} {a' num' c' : Nat} {bad' : Bool} {Y' : Nat → Prop} (hd : DevAt w1 (More Z w w1) d m') (hj : JAt w1 J ⟨d, f, f + n, f + a', num', bad'⟩) (ht : Turn (fun k => Z k ∨ k = J) w w1)
    (hr : RAt w2 Y' r m') (hy : ∀ k, Y' k → Y k ∨ (w1.heap.size ≤ k ∧ k < w2.heap.size)) (hk : RJ w2 K r f n a' num' bad') (ht2 : Turn (fun k => Y k ∨ k = K) w1 w2)
    (hp : PickOk m') (hn : m'.n = m.n) (ha : a' ≤ n) (hnum : num' ≤ maxNum + 1) (hws : m'.ws ≤ c') (hfs : m'.fs ≤ c') : Pair w0 w2 d r J K f n c' m' (More Z w w1) Y' a' num' bad' := by
  have s0 := h.both.below.size
  have s1 := ht.size
  have s2 := ht2.size
  have lJ := h.jr.lt
  have lK := h.rj.lt
  have b1 : Below w0.heap.size w0 w1 := Turn.below h.both.below ht s0 (fun k hk => by
    rcases hk with hk | rfl
    · exact h.both.za k hk
    · exact h.ja)
  have b2 : Below w0.heap.size w0 w2 := Turn.below b1 ht2 b1.size (fun k hk => by
    rcases hk with hk | rfl
    · exact h.both.ya k hk
    · exact h.ka)
  have hny : ∀ k, More Z w w1 k → ¬ Y k := fun k hk hy => hk.elim (fun hz => h.both.apart k hz hy) (fun hh => by have := h.both.doc.lt k hy; omega)
  refine ⟨⟨?_, hr, ?_, more_ge h.both.za s0, ?_, b2, hp, by rw [hn]; exact h.both.pos⟩, ?_, hk, ?_, ?_, ?_, ?_, h.jk, h.ja, h.ka, ha, by rw [hn]; exact h.fn, hnum, hws, hfs⟩
  · refine hd.stays (fun k hq => ht2.block k (hd.lt k hq) (fun hz => ?_)) s2
    rcases hz with hz | hz
    · exact hny k hq hz
    · subst hz
      rcases hq with hq | hq
      · exact h.zk hq
      · omega
  · intro k hk hy2
    rcases hy k hy2 with h3 | h3
    · exact hny k hk h3
    · have := hd.lt k hk; omega
  · intro k hk3
    rcases hy k hk3 with h3 | h3
    · exact h.both.ya k h3
    · have := b1.size; omega
  · refine JAt.keep hj (ht2.block J hj.lt (fun hz => ?_))
    rcases hz with hz | hz
    · exact h.yj hz
    · exact h.jk hz
  · rintro (hz | hz)
    · exact h.zj hz
    · omega
  · rintro (hz | hz)
    · exact h.zk hz
    · omega
  · intro hz
    rcases hy J hz with h3 | h3
    · exact h.yj h3
    · omega
  · intro hz
    rcases hy K hz with h3 | h3
    · exact h.yk h3
    · omega

theorem Turn.orJ {Z : Nat → Prop} {w w' : World} {J : Nat} (h : Turn Z w w') : Turn (fun k => Z k ∨ k = J) w w' := ⟨h.os, h.tape, h.output, h.size, fun k hk hn => h.block k hk (fun hz => hn (.inl hz))⟩
theorem more_or {Y : Nat → Prop} {w w' : World} : ∀ k, More Y w w' k → Y k ∨ (w.heap.size ≤ k ∧ k < w'.heap.size) := fun k hk => hk
/-- Both devices have done something, the journals nothing. -/
theorem Pair.devs {w0 w w1 w2 : World} {d r J K f n c : Nat} {m m' : Dev} {Z Y : Nat → Prop} {a num : Nat} {bad : Bool} (h : Pair w0 w d r J K f n c m Z Y a num bad) {x y e1 e2 : Ending}
    (h1 : Does w Z d m' x e1 w1) (h2 : RDoes w1 Y r m' y e2 w2) (hp : PickOk m') (hn : m'.n = m.n) {c' : Nat} (hws : m'.ws ≤ c') (hfs : m'.fs ≤ c') : Pair w0 w2 d r J K f n c' m' (More Z w w1) (More Y w1 w2) a num bad := by
  obtain ⟨_, hd, ht⟩ := h1
  obtain ⟨_, hr, ht2⟩ := h2
  have hm := h.mid (Turn.orJ ht)
  exact h.move hd (JAt.keep h.jr (ht.block J h.jr.lt h.zj)) (Turn.orJ ht) hr more_or ((ht2.block K hm.2.lt h.yk).trans hm.2) (Turn.orJ ht2) hp hn h.an h.num1 hws hfs

theorem appGo_more (num : Nat) (text : List Nat) (z : Nat) : ∀ (k i : Nat) (m : Dev), PickOk m → (appGo num text z k i m).1.n = m.n ∧ (appGo num text z k i m).1.ws ≤ m.ws + k + 1 ∧ (appGo num text z k i m).1.fs ≤ m.fs + k + 1
  | 0, i, m, hp => by
    have h := fDev_more m hp
    rw [appGo]
    exact ⟨h.2.1, by have := h.2.2.1; omega, by have := h.2.2.2; omega⟩
  | k + 1, i, m, hp => by
    have h := wDev_more m ((z + i : Nat) : Int) (pieceB num text i) hp
    rw [appGo]
    split
    · have h2 := appGo_more num text z k (i + 1) _ h.1
      exact ⟨h2.1.trans h.2.1, by have := h.2.2.1; omega, by have := h.2.2.2; omega⟩
    · exact ⟨h.2.1, by have := h.2.2.1; simp only; omega, by have := h.2.2.2; simp only; omega⟩
theorem appendM_more (j : Jn) (text : List Nat) (m : Dev) (hp : PickOk m) (hae : j.end_ ≤ 4096) : (appendM j text m).n = m.n ∧ (appendM j text m).ws ≤ m.ws + 5000 ∧ (appendM j text m).fs ≤ m.fs + 5000 := by
  unfold appendM
  split
  · exact ⟨rfl, by omega, by omega⟩
  split
  · exact ⟨rfl, by omega, by omega⟩
  · rename_i h1 h2
    have h3 := leftV_le j.end_ j.at_ j.next
    have h := appGo_more j.next text j.at_ (need text.length) 0 m hp
    unfold appD
    exact ⟨h.1, by have := h.2.1; omega, by have := h.2.2; omega⟩
/-- Both journals are the same behind an append. -/
theorem appendJ_same (d r f n a num : Nat) (bad : Bool) (text : List Nat) (m : Dev) (han : a ≤ n) (hnum : num ≤ maxNum + 1) : ∃ a' num' bad', a' ≤ n ∧ num' ≤ maxNum + 1 ∧ appendJ ⟨d, f, f + n, f + a, num, bad⟩ text m = ⟨d, f, f + n, f + a', num', bad'⟩ ∧
    (appendJ (rJn r f n a num bad) text m).at_ - f = a' ∧ (appendJ (rJn r f n a num bad) text m).next = num' ∧ (appendJ (rJn r f n a num bad) text m).torn = bad' := by
  unfold appendJ rJn
  by_cases h1 : bad = true ∨ m.power = false
  · rw [if_pos h1, if_pos h1]
    exact ⟨a, num, bad, han, hnum, rfl, by simp, rfl, rfl⟩
  · rw [if_neg h1, if_neg h1]
    by_cases h2 : leftV (f + n) (f + a) num < need text.length
    · rw [if_pos h2, if_pos h2]
      exact ⟨a, num, bad, han, hnum, rfl, by simp, rfl, rfl⟩
    · rw [if_neg h2, if_neg h2]
      have hnp := need_pos text.length
      have h3 : a + need text.length ≤ n ∧ num ≤ maxNum := by
        unfold leftV at h2
        unfold maxNum
        split at h2 <;> omega
      by_cases h4 : (appD num text (f + a) m).2 = true
      · rw [if_pos h4, if_pos h4]
        refine ⟨a + need text.length, num + 1, bad, h3.1, by omega, ?_, by simp only; omega, rfl, rfl⟩
        simp only [Nat.add_assoc]
      · rw [if_neg h4, if_neg h4]
        exact ⟨a, num, true, han, hnum, rfl, by simp, rfl, rfl⟩
theorem Pair.append {w0 w w1 w2 : World} {d r J K f n c : Nat} {m : Dev} {Z Y : Nat → Prop} {a num : Nat} {bad : Bool} (h : Pair w0 w d r J K f n c m Z Y a num bad) {text : List Nat} {e1 e2 : Ending}
    (h1 : AppS w Z J ⟨d, f, f + n, f + a, num, bad⟩ text m e1 w1) (h2 : rAppS w1 Y K r f n a num bad text m e2 w2) :
    e1 = e2 ∧ (∃ z, e2 = .returned (.int .i64 z)) ∧ ∃ m' Z' Y' a' num' bad', Pair w0 w2 d r J K f n (c + 5000) m' Z' Y' a' num' bad' := by
  obtain ⟨g1, g2, g3, g4, g5⟩ := h1
  obtain ⟨k1, k2, ⟨Y', k3, k4⟩, k5, k6⟩ := h2
  obtain ⟨a', num', bad', ha, hnum, q1, q2, q3, q4⟩ := appendJ_same d r f n a num bad text m h.an h.num1
  rw [q1] at g2
  rw [q2, q3, q4] at k2
  have hmn := h.both.dev.1.n
  have hb := appendM_more ⟨d, f, f + n, f + a, num, bad⟩ text m h.both.pick (by have := h.fn; show f + n ≤ 4096; omega)
  have he : appendM (rJn r f n a num bad) text m = appendM ⟨d, f, f + n, f + a, num, bad⟩ text m := rfl
  rw [he] at k3
  refine ⟨g1.trans k1.symm, ⟨_, k1⟩, _, _, _, a', num', bad', h.move g3 g2 g4 k3 k4 k2 k5 g5 hb.1 ha hnum ?_ ?_⟩
  · have := hb.2.1; have := h.ws; omega
  · have := hb.2.2; have := h.fs; omega
/-- Both begin anew. -/
theorem Pair.restart {w0 w : World} {d r J K f n c : Nat} {m : Dev} {Z Y : Nat → Prop} {a num : Nat} {bad : Bool} (h : Pair w0 w d r J K f n c m Z Y a num bad) :
    Pair w0 ((w.setCell ⟨J, 3, none⟩ (.int .i64 (f : Int))).setCell ⟨K, 3, none⟩ (.int .i64 0)) d r J K f n c m (More Z w (w.setCell ⟨J, 3, none⟩ (.int .i64 (f : Int)))) Y 0 num bad := by
  have hj : JBox w J d f (f + n) (f + a) num bad := h.jr
  have hj1 := hj.setAt f
  have o1 : ∀ k, k ≠ J → (w.setCell ⟨J, 3, none⟩ (.int .i64 (f : Int))).heap[k]? = w.heap[k]? := fun k hk => heap_setCell_other w ⟨J, 3, none⟩ k _ hk
  have t1 : Turn (fun k => Z k ∨ k = J) w (w.setCell ⟨J, 3, none⟩ (.int .i64 (f : Int))) := by
    have hs := (Below.refl 0 w).setCell (p := ⟨J, 3, none⟩) (Nat.zero_le _) (.int .i64 (f : Int))
    exact ⟨hs.os, hs.tape, hs.output, hs.size, fun k hk hn => o1 k (fun e => hn (.inr e))⟩
  have hm := h.mid t1
  have hk1 := rj_at hm.2 0
  have o2 : ∀ k, k ≠ K → ((w.setCell ⟨J, 3, none⟩ (.int .i64 (f : Int))).setCell ⟨K, 3, none⟩ (.int .i64 ((0 : Nat) : Int))).heap[k]? = (w.setCell ⟨J, 3, none⟩ (.int .i64 (f : Int))).heap[k]? := fun k hk => heap_setCell_other _ ⟨K, 3, none⟩ k _ hk
  have t2 : Turn (fun k => Y k ∨ k = K) (w.setCell ⟨J, 3, none⟩ (.int .i64 (f : Int))) ((w.setCell ⟨J, 3, none⟩ (.int .i64 (f : Int))).setCell ⟨K, 3, none⟩ (.int .i64 ((0 : Nat) : Int))) := by
    have hs := (Below.refl 0 (w.setCell ⟨J, 3, none⟩ (.int .i64 (f : Int)))).setCell (p := ⟨K, 3, none⟩) (Nat.zero_le _) (.int .i64 ((0 : Nat) : Int))
    exact ⟨hs.os, hs.tape, hs.output, hs.size, fun k hk hn => o2 k (fun e => hn (.inr e))⟩
  have hd1 : DevAt (w.setCell ⟨J, 3, none⟩ (.int .i64 (f : Int))) Z d m := h.both.dev.stays (fun k hk => o1 k (fun e => h.zj (e ▸ hk))) (by simp)
  have hd2 : DevAt (w.setCell ⟨J, 3, none⟩ (.int .i64 (f : Int))) (More Z w (w.setCell ⟨J, 3, none⟩ (.int .i64 (f : Int)))) d m := by
    obtain ⟨ok, vo, vb, vl, hl⟩ := hd1
    refine ⟨ok, vo, vb, vl, hl.widen (fun k hk => .inl hk) (fun k hk => ?_)⟩
    rcases hk with hk | hk
    · exact hl.zlt k hk
    · exact hk.2
  exact h.move hd2 hj1 t1 (hm.1.stays (fun k hk => o2 k (fun e => h.yk (e ▸ hk))) (by simp)) (fun k hk => .inl hk) hk1 t2 h.both.pick rfl (Nat.zero_le _) h.num1 h.ws h.fs
/-- Both journals are opened anew. -/
theorem Pair.anew {w0 w w2 : World} {d r J K f n c : Nat} {m : Dev} {Z Y : Nat → Prop} {a num : Nat} {bad : Bool} (h : Pair w0 w d r J K f n c m Z Y a num bad) (hb : Below w.heap.size w w2) {J' K' a' num' : Nat}
    (hj : JAt w2 J' ⟨d, f, f + n, f + a', num', false⟩) (hk : RJ w2 K' r f n a' num' false) (hJ : w.heap.size ≤ J') (hK : w.heap.size ≤ K') (hne : J' ≠ K') (ha : a' ≤ n) (hnum : num' ≤ maxNum + 1) : Pair w0 w2 d r J' K' f n c m Z Y a' num' false := by
  have s0 := h.both.below.size
  have hz : ∀ k, w.heap.size ≤ k → ¬ Z k := fun k hk hz => by have := h.both.dev.lt k hz; omega
  have hy : ∀ k, w.heap.size ≤ k → ¬ Y k := fun k hk hz => by have := h.both.doc.lt k hz; omega
  exact ⟨h.both.keep hb, hj, hk, hz _ hJ, hz _ hK, hy _ hJ, hy _ hK, hne, by omega, by omega, ha, h.fn, hnum, h.ws, h.fs⟩

end Go.Proofs.YtkhghkklekjdaaaDoor.journal

namespace Go.Proofs.YtkhghkklekjdaaaDoor.journal
open Go.RowKit
open Go.Proofs.YtkhghkklekjdaaaDoor.kit Go.Proofs.YtkhghkklekjdaaaDoor.own Go.Proofs.YtkhghkklekjdaaaDoor.jm Go.Proofs.YtkhghkklekjdaaaDoor.iter
open Go.Proofs.YtkhghkklekjdaaaDoor.frame (Nib)
open Go.Proofs.YtkhghkklekjdaaaDoor.sector (Dev DevAt RAt Both Turn More PickOk strN cDev Cut_all rCut_all On_any rOn_any)
set_option linter.unusedVariables false

theorem stands_few {last : Nat} {ps : List Pc} {l : List (List Nat)} {k : Nat} (h : Stands last ps l k) : l.length ≤ k := by
  induction h with
  | stop _ => exact Nat.le_refl _
  | @more last ps l k h0 _ ih => have := need_pos (cnt ps); simp only [List.length_cons]; omega
/-- What both openings come to, when there is a journal. -/
theorem open_bounds {m : Dev} (hm : m.Ok) (f n first : Nat) (hf : f + n ≤ m.n) (h1 : 1 ≤ first ∧ first ≤ maxNum) : (standF first (pcsOf m f n)).2 ≤ n ∧ max (gmax (pcsOf m f n) + 1) first ≤ maxNum + 1 ∧ (standF first (pcsOf m f n)).1.length ≤ 4096 := by
  have hok := pcsOf_ok hm f n hf
  have hst := stands_of first (pcsOf m f n) hok
  have hl := hst.len
  rw [pcsOf_len] at hl
  have hfew := stands_few hst
  have hg := gmax_le (pcsOf m f n) (fun p hp => by
    rcases (hok p hp).1 with rfl | h
    · exact Nat.zero_le _
    · exact h.2.2.1)
  have := hm.n
  exact ⟨hl, by omega, by omega⟩
/-- The state between two acts. -/
def PlaysAt (w0 w : World) (d r J K f n c : Nat) : Prop := ∃ m Z Y a num bad, Pair w0 w d r J K f n c m Z Y a num bad
theorem PlaysAt.keep {w0 w w' : World} {d r J K f n c : Nat} (h : PlaysAt w0 w d r J K f n c) (hb : Below w.heap.size w w') : PlaysAt w0 w' d r J K f n c := by
  obtain ⟨m, Z, Y, a, num, bad, hp⟩ := h
  exact ⟨_, _, _, _, _, _, hp.keep hb⟩
theorem PlaysAt.weak {w0 w : World} {d r J K f n c c' : Nat} (h : PlaysAt w0 w d r J K f n c) (hc : c ≤ c') : PlaysAt w0 w d r J K f n c' := by
  obtain ⟨m, Z, Y, a, num, bad, hp⟩ := h
  exact ⟨_, _, _, _, _, _, hp.weak hc⟩
theorem nib_apart {w0 : World} {Z : Nat → Prop} (hN : Nib w0) (hz : ∀ k, Z k → w0.heap.size ≤ k) : ¬ Z 0 := fun h => by
  have h1 := hz _ h
  have h2 := cell_lt (hN 0 (by omega))
  simp only at h2
  omega
/-- Both are asked: the program's, then the document's; what else lies stays. -/
def Asked (w0 W : World) (B : Nat) (f1 f2 : FuncId) (a1 a2 : Array Value) (e : Ending) (Q : World → Prop) : Prop :=
  Calls Tryd.prog f1 a1 W fun e1 w1 => e1 = e ∧ w1.heap[B]? = W.heap[B]? ∧ Calls Tryd.prog f2 a2 w1 fun e2 w2 => e2 = e ∧ w2.heap[B]? = W.heap[B]? ∧ Q w2

theorem turn_block {Z : Nat → Prop} {w w' : World} (h : Turn Z w w') {B : Nat} (hB : B < w.heap.size) (hz : ¬ Z B) : w'.heap[B]? = w.heap[B]? := h.block B hB hz

theorem Pair.append_asked {w0 W : World} {d r J K f n c : Nat} {m : Dev} {Z Y : Nat → Prop} {a num : Nat} {bad : Bool} (h : Pair w0 W d r J K f n c m Z Y a num bad) (hN0 : Nib w0) (x : ByteArray) (hx : x.size ≤ 9223372036854775807) (hc : c + 2000000 < 4611686018427387904)
    {B : Nat} (hB : B < W.heap.size) (bz : ¬ Z B) (by_ : ¬ Y B) (bj : B ≠ J) (bk : B ≠ K) :
    ∃ z : Int, Asked w0 W B 14 15 #[.pointer (some ⟨J, 0, none⟩), .string x] #[.pointer (some ⟨K, 0, none⟩), .string x] (.returned (.int .i64 z)) (fun w2 => PlaysAt w0 w2 d r J K f n (c + 5000)) := by
  have hmn := h.both.dev.1.n
  have hfn := h.fn
  have hlen : (byN x).length ≤ 9223372036854775807 := by rw [byN_len]; exact hx
  have hnum := h.num1
  unfold maxNum at hnum
  refine ⟨appendE ⟨d, f, f + n, f + a, num, bad⟩ (byN x) m, ?_⟩
  unfold Asked
  have h1 := Append_any W Z J ⟨d, f, f + n, f + a, num, bad⟩ m (byN x) h.jr h.both.dev h.both.pick h.zj (nib_apart hN0 h.both.za) (hN0.keep h.both.below) (byN_lt x) hlen (by show num < _; omega) (by show f + a ≤ f + n; have := h.an; omega) (by show f + n ≤ 4096; omega)
    (by have := h.ws; omega) (by have := h.fs; omega)
  rw [strN_byN] at h1
  refine h1.mono ?_
  intro e1 w1 g1
  have g1' := g1
  obtain ⟨q1, q2, q3, q4, q5⟩ := g1'
  refine ⟨q1, turn_block q4 hB (fun hz => hz.elim bz bj), ?_⟩
  have hm := h.mid q4
  have h2 := rAppend_any w1 Y K r f n a num bad m (byN x) hm.2 hm.1 h.both.pick h.yk (byN_lt x) hlen h.an h.fn (by have := h.ws; omega) (by have := h.fs; omega)
  rw [strN_byN] at h2
  refine h2.mono ?_
  intro e2 w2 g2
  have hp := h.append g1 g2
  obtain ⟨k1, k2, k3, k5, k6⟩ := g2
  refine ⟨k1, (turn_block k5 (Nat.lt_of_lt_of_le hB q4.size) (fun hz => hz.elim by_ bk)).trans (turn_block q4 hB (fun hz => hz.elim bz bj)), ?_⟩
  obtain ⟨_, _, m', Z', Y', a', num', bad', hp⟩ := hp
  exact ⟨_, _, _, _, _, _, hp⟩

theorem Pair.restart_asked {w0 W : World} {d r J K f n c : Nat} {m : Dev} {Z Y : Nat → Prop} {a num : Nat} {bad : Bool} (h : Pair w0 W d r J K f n c m Z Y a num bad)
    {B : Nat} (bj : B ≠ J) (bk : B ≠ K) :
    Asked w0 W B 16 17 #[.pointer (some ⟨J, 0, none⟩)] #[.pointer (some ⟨K, 0, none⟩)] (.returned (.tuple #[])) (fun w2 => PlaysAt w0 w2 d r J K f n c) := by
  unfold Asked
  have hj : JBox W J d f (f + n) (f + a) num bad := h.jr
  refine (Restart_any W J _ f (f + n) (f + a) num bad hj.v).mono ?_
  rintro e1 w1 ⟨rfl, rfl⟩
  have o1 : ∀ k, k ≠ J → (W.setCell ⟨J, 3, none⟩ (.int .i64 (f : Int))).heap[k]? = W.heap[k]? := fun k hk => heap_setCell_other W ⟨J, 3, none⟩ k _ hk
  refine ⟨rfl, o1 B bj, ?_⟩
  have hr : RJ (W.setCell ⟨J, 3, none⟩ (.int .i64 (f : Int))) K r f n a num bad := (o1 K (fun e => h.jk e.symm)).trans h.rj
  refine (rRestart_any _ K r f n a num bad hr).mono ?_
  rintro e2 w2 ⟨rfl, rfl⟩
  exact ⟨rfl, (heap_setCell_other _ ⟨K, 3, none⟩ B _ bk).trans (o1 B bj), _, _, _, _, _, _, h.restart⟩

theorem Pair.cut_asked {w0 W : World} {d r J K f n c : Nat} {m : Dev} {Z Y : Nat → Prop} {a num : Nat} {bad : Bool} (h : Pair w0 W d r J K f n c m Z Y a num bad) (z : Int) (hz : z ≤ 9223372036854775807) (p : Nat) (hp : p < 18446744073709551616)
    {B : Nat} (hB : B < W.heap.size) (bz : ¬ Z B) (by_ : ¬ Y B) :
    Asked w0 W B 18 19 #[.pointer (some ⟨d, 0, none⟩), .int .i64 z, .int .u64 (p : Nat)] #[.pointer (some ⟨r, 0, none⟩), .int .i64 z, .int .u64 (p : Nat)] (.returned (.tuple #[])) (fun w2 => PlaysAt w0 w2 d r J K f n (c + 5000)) := by
  unfold Asked
  have hcd := sector.cDev_more m z p hp h.both.pick
  refine (Cut_all W Z d m h.both.dev z hz p).mono ?_
  intro e1 w1 g1
  have g1' := g1
  obtain ⟨q1, q2, q3⟩ := g1'
  refine ⟨q1, turn_block q3 hB bz, ?_⟩
  refine (rCut_all w1 Y r m (h.mid (Turn.orJ q3)).1 z hz p).mono ?_
  intro e2 w2 g2
  have g2' := g2
  obtain ⟨k1, k2, k3⟩ := g2'
  refine ⟨k1, (turn_block k3 (Nat.lt_of_lt_of_le hB q3.size) by_).trans (turn_block q3 hB bz), ?_⟩
  exact ⟨_, _, _, _, _, _, h.devs g1 g2 hcd.1 hcd.2.1 (by have := hcd.2.2.1; have := h.ws; omega) (by have := hcd.2.2.2; have := h.fs; omega)⟩

theorem Pair.on_asked {w0 W : World} {d r J K f n c : Nat} {m : Dev} {Z Y : Nat → Prop} {a num : Nat} {bad : Bool} (h : Pair w0 W d r J K f n c m Z Y a num bad)
    {B : Nat} (hB : B < W.heap.size) (bz : ¬ Z B) (by_ : ¬ Y B) :
    Asked w0 W B 20 21 #[.pointer (some ⟨d, 0, none⟩)] #[.pointer (some ⟨r, 0, none⟩)] (.returned (.tuple #[])) (fun w2 => ∃ m' Z' Y', Pair w0 w2 d r J K f n c m' Z' Y' a num bad ∧ ¬ Z' B ∧ ¬ Y' B) := by
  unfold Asked
  refine (On_any W Z d m h.both.dev h.both.pos).mono ?_
  intro e1 w1 g1
  have g1' := sector.does_of0 g1
  obtain ⟨q1, q2, q3⟩ := g1'
  refine ⟨q1, turn_block q3 hB bz, ?_⟩
  refine (rOn_any w1 Y r m (h.mid (Turn.orJ q3)).1).mono ?_
  intro e2 w2 g2
  have g2' := sector.rdoes_of0 g2
  obtain ⟨k1, k2, k3⟩ := g2'
  refine ⟨k1, (turn_block k3 (Nat.lt_of_lt_of_le hB q3.size) by_).trans (turn_block q3 hB bz), ?_⟩
  refine ⟨_, _, _, h.devs (sector.does_of0 g1) (sector.rdoes_of0 g2) (fun p hp => h.both.pick p hp) rfl h.ws h.fs, ?_, ?_⟩
  · rintro (hz | hz)
    · exact bz hz
    · omega
  · rintro (hz | hz)
    · exact by_ hz
    · have := q3.size; omega

/-- Both are opened anew: the same error, or the same records. -/
theorem Pair.open_asked {w0 W : World} {d r J K f n c : Nat} {m : Dev} {Z Y : Nat → Prop} {a num : Nat} {bad : Bool} (h : Pair w0 W d r J K f n c m Z Y a num bad) (hN0 : Nib w0) (hn : 1 ≤ n) (fi : Int) {B : Nat} (hB : B < W.heap.size) :
    (∃ e : Int, e ≠ 0 ∧ Calls Tryd.prog 11 #[.pointer (some ⟨d, 0, none⟩), .int .i64 (f : Int), .int .i64 (n : Int), .int .i64 fi] W (NoJ W e) ∧ Calls Tryd.prog 12 #[.pointer (some ⟨r, 0, none⟩), .int .i64 (f : Int), .int .i64 (n : Int), .int .i64 fi] W (NoJ W e)) ∨
    ∃ xs : List ByteArray, Calls Tryd.prog 11 #[.pointer (some ⟨d, 0, none⟩), .int .i64 (f : Int), .int .i64 (n : Int), .int .i64 fi] W fun e1 w1 => ∃ J' v1, e1 = .returned (.tuple #[.pointer (some ⟨J', 0, none⟩), v1, .int .i64 0]) ∧ w1.heap[B]? = W.heap[B]? ∧
      Calls Tryd.prog 12 #[.pointer (some ⟨r, 0, none⟩), .int .i64 (f : Int), .int .i64 (n : Int), .int .i64 fi] w1 fun e2 w2 => ∃ K' v2, e2 = .returned (.tuple #[.pointer (some ⟨K', 0, none⟩), v2, .int .i64 0]) ∧ w2.heap[B]? = W.heap[B]? ∧
        SlT w2 v1 xs ∧ SlT w2 v2 xs ∧ PlaysAt w0 w2 d r J' K' f n c := by
  have hmn := h.both.dev.1.n
  have hfn := h.fn
  by_cases hbo : badO m.n (f : Int) (n : Int) fi
  · exact .inl ⟨20, by omega, Open_bad W Z d m h.both.dev _ _ fi (by omega) hbo, rOpen_bad W Y r m h.both.doc _ _ fi (by omega) hbo⟩
  · cases hp : m.power with
    | false => exact .inl ⟨22, by omega, Open_dead W Z d m h.both.dev _ _ fi (by omega) hbo hp, rOpen_dead W Y r m h.both.doc _ _ fi (by omega) hbo hp⟩
    | true =>
      have hb4 : ¬ fi < 1 := fun h1 => hbo (.inr (.inr (.inr (.inl h1))))
      have hb5 : ¬ (4611686018427387904 : Int) < fi := fun h1 => hbo (.inr (.inr (.inr (.inr h1))))
      obtain ⟨first, rfl⟩ : ∃ x : Nat, fi = x := ⟨fi.toNat, by omega⟩
      have hf1 : 1 ≤ first ∧ first ≤ maxNum := by unfold maxNum; omega
      have hbd := open_bounds h.both.dev.1 f n first hfn hf1
      have hll : ((standF first (pcsOf m f n)).1.map strN).length ≤ 9223372036854775807 := by rw [List.length_map]; have := hbd.2.2; omega
      refine .inr ⟨(standF first (pcsOf m f n)).1.map strN, (Open_ok W Z d m f n first h.both.dev hfn hn hf1 hp (hN0.keep h.both.below)).mono ?_⟩
      rintro e1 w1 ⟨J', v1, rfl, hj, hJ, ho1, hb1⟩
      refine ⟨J', v1, rfl, hb1.block B hB, (rOpen_ok w1 Y r m f n first (h.both.doc.keep hb1) hfn hn hf1 hp).mono ?_⟩
      rintro e2 w2 ⟨K', v2, rfl, hk, hK, ho2, hb2⟩
      refine ⟨K', v2, rfl, (hb2.block B (Nat.lt_of_lt_of_le hB hb1.size)).trans (hb1.block B hB), (ho1.below hb2).sl hll, ho2.sl hll, ?_⟩
      exact ⟨_, _, _, _, _, _, h.anew (hb1.trans (hb2.mono hb1.size)) (JAt.keep hj (hb2.block J' (JAt.lt hj))) hk hJ (Nat.le_trans hb1.size hK) (by have := JAt.lt hj; omega) hbd.1 hbd.2.1⟩

end Go.Proofs.YtkhghkklekjdaaaDoor.journal

namespace Go.Proofs.YtkhghkklekjdaaaDoor.journal
open Go.ChangeShapes Go.WideShapes Go.ChangeAt Go.RowKit
open Go.Proofs.YtkhghkklekjdaaaDoor.kit Go.Proofs.YtkhghkklekjdaaaDoor.own Go.Proofs.YtkhghkklekjdaaaDoor.fm Go.Proofs.YtkhghkklekjdaaaDoor.lift
open Go.WideMaps Go.WideElems
open Go.Proofs.YtkhghkklekjdaaaDoor.frame (Nib)
set_option linter.unusedVariables false

theorem own : ownKnob Tryd.prog.godebug = none := by kernel_rfl
theorem laidOut : laidOutB Tryd.prog = true := by kernel_rfl
theorem gNib : Tryd.prog.globalNamed "reef/frame.nibbles" = some 0 := by kernel_rfl
theorem gNibT : (Tryd.prog.globals[0]?).map (·.type) = some 127 := by kernel_rfl
theorem c16 : Tryd.prog.cellsOf 127 = 16 := by kernel_rfl
theorem cu32 : Tryd.prog.cellsOf 88 = 1 := by kernel_rfl

theorem weight {H : Type} {P : Program} {ts : List TypeId} {ds : List (DataW H)} (h : (DataW.weightsEach P ts ds).all (· ≤ reachBytes) = true) {j : Nat} {t : TypeId} {d : DataW H} (ht : ts[j]? = some t) (hd : ds[j]? = some d) : ∀ n ∈ d.weights P t, n ≤ reachBytes := by
  intro n hn
  have := List.all_eq_true.1 h _ (DataW.weights_mem_each ht hd n hn)
  simpa using this

/-- The table that every row of this seat lists. -/
def tabs : List (String × DataW Unit) := [("reef/frame.nibbles", Rows.laid_reef_frame_nibbles)]
theorem nib_of {W : World} (h : laidMetH Tryd.prog tabs W) : Nib W := by
  have hT : Lib.TabIs Tryd.prog W "reef/frame.nibbles" .u32 (nibs.map fun n : Nat => (n : Int)) :=
    Lib.tabIs_of_head (rest := []) gNib gNibT Tryd.underlying127 Tryd.underlying88 cu32 c16 h
  intro q hq
  have := hT.cell gNib q (by simpa [nibs] using hq)
  rw [this]
  have e : (nibs.map fun n : Nat => (n : Int)).getD q 0 = ((nib q : Nat) : Int) := by
    have : ∀ q : Fin 16, (nibs.map fun n : Nat => (n : Int)).getD q.val 0 = ((nib q.val : Nat) : Int) := by decide
    exact this ⟨q, hq⟩
  rw [e]
def fillTab (cs : Array Value) : Obj → Obj
  | .cells _ t frozen => .cells cs t frozen
  | o => o
/-- A world for the witness: the settled one, with the table as its initialiser lays it. -/
noncomputable def laidWorld (os : Os) : World :=
  { World.holding Tryd.prog os ⟨#[], #[], []⟩ with heap := (World.holding Tryd.prog os ⟨#[], #[], []⟩).heap.modify 0 (fillTab (nibs.map fun n : Nat => Value.int .u32 (n : Int)).toArray) }
theorem laid_met (os : Os) (args : Array Value) : laidMet Tryd.prog tabs ((laidWorld os).forCall (fun _ _ => 0) ⟨#[], args, []⟩).memory :=
  laidMet_of_run' 8 (by kernel_rfl) (by kernel_rfl)

/-- What a law's walk gives its row: the law's answer is true, and nothing that came in has turned. -/
theorem closes {H : Type} {enc : TypeId × Value → H} {P : Program} {fn : Func} {s : ChangeSpec} {W : World} {args : Array Value} {ds gs : List (DataW H)} {before : List MemPlace} {f : FuncId}
    (hl : laidOutB P = true) (hread : (fn.params.toList.all fun t => P.readableRec t && decide (t < P.types.size)) = true)
    (b : TypeId) (hb : P.underlying b = some .bool) (hrt : fn.resultTypes = #[b]) (hvars : s.vars = [])
    (hspec : ∀ ds : List (DataW H), ds.length = fn.params.toList.length → s.fn H ds = { results := [.lit (.bool true)], args := ds })
    (hW : DataW.Whole enc P fn.params.toList s.vars false W args.toList ds gs before)
    (walk : Calls P f args W fun e W' => e = .returned (.bool true) ∧ Below W.heap.size W W') :
    Calls P f args W fun e W' => ∃ v, e = .returned v ∧ s.post enc P fn false true false false W args v W' := by
  have hW' := hW
  obtain ⟨p, q, hA, hV, hbefore, hfz, hnd⟩ := hW
  rw [hvars] at hV
  obtain ⟨rfl, rfl⟩ := trodVars_none hV
  have hps : before = p := by rw [hbefore, List.append_nil]
  subst hps
  have hlt : ∀ x ∈ before, x.block < W.heap.size := fun x hx => hW'.lt x hx
  have hlen := trodAll_len hA
  refine walk.mono fun e W' ⟨he, hbel⟩ => ?_
  subst he
  have hs := hspec ds hlen
  refine ⟨_, rfl, ds, [], before, [], before, [], hW', ?_, ?_, ?_, hbel.frame _, fun h => by cases h⟩
  · rw [List.append_nil, hs, hrt]
    exact trodAll_mk1 (shut_bool hb _)
  · rw [List.append_nil, hs]
    exact argsStay hl hbel hread hA hlt (fun p hp => by simpa using hlt p hp)
  · rw [hvars, List.append_nil, hs]
    rfl


end Go.Proofs.YtkhghkklekjdaaaDoor.journal

namespace Go.Proofs.YtkhghkklekjdaaaDoor.journal
open Go.ChangeShapes Go.WideShapes Go.ChangeAt Go.RowKit
open Go.Proofs.YtkhghkklekjdaaaDoor.kit Go.Proofs.YtkhghkklekjdaaaDoor.own Go.Proofs.YtkhghkklekjdaaaDoor.lift
open Go.Proofs.YtkhghkklekjdaaaDoor.sector (Byt cu8)
set_option linter.unusedVariables false

/-- An act, as its five cells are. -/
structure ActJ where
  kind : Int
  text : ByteArray
  n : Int
  pick : Nat
  first : Int
def ActJ.Ok (a : ActJ) : Prop := a.text.size ≤ 9223372036854775807 ∧ (-9223372036854775808 ≤ a.n ∧ a.n ≤ 9223372036854775807) ∧ a.pick < 18446744073709551616
def ActJ.cells (a : ActJ) : List Value := [.int .i64 a.kind, .string a.text, .int .i64 a.n, .int .u64 (a.pick : Nat), .int .i64 a.first]
instance : Inhabited ActJ := ⟨⟨0, ByteArray.empty, 0, 0, 0⟩⟩
theorem list5 {α : Type} : ∀ (l : List α), l.length = 5 → ∃ a b c d e, l = [a, b, c, d, e]
  | [a, b, c, d, e], _ => ⟨a, b, c, d, e, rfl⟩
theorem cActJ : Tryd.prog.cellsOf 40 = 5 ∧ Tryd.prog.cellsOf 3 = 1 ∧ Tryd.prog.cellsOf 38 = 1 ∧ Tryd.prog.cellsOf 9 = 1 ∧ Tryd.prog.cellsOf 2 = 1 := ⟨by kernel_rfl, by kernel_rfl, by kernel_rfl, by kernel_rfl, by kernel_rfl⟩
theorem bActJ : Tryd.prog.bytesOf 40 = 48 := by kernel_rfl

theorem actj_cells {H : Type} {enc : TypeId × Value → H} {W : World} {n : Nat} {cs : List Value} {x : DataW H × List MemPlace}
    (h : DataW.trod enc Tryd.prog W 0 (fun _ => true) true n 40 cs = some x) : ∃ a : ActJ, cs = a.cells ∧ a.Ok := by
  obtain ⟨xs, n', hn, hx, hlen, hxs, hg⟩ := DataW.trod_struct Tryd.underlying40 h
  obtain ⟨e5, e1, e2, e3, e4⟩ := cActJ
  rw [e5] at hlen
  have hxs' : xs.length = 5 := hxs
  obtain ⟨c0, c1, c2, c3, c4, rfl⟩ := list5 cs hlen
  obtain ⟨y0, y1, y2, y3, y4, rfl⟩ := list5 xs hxs'
  have q0 : DataW.trod enc Tryd.prog W 0 (fun _ => true) true n' 3 (List.take (Tryd.prog.cellsOf 3) (List.drop 0 [c0, c1, c2, c3, c4])) = some y0 := hg 0 _ rfl
  rw [e1] at q0
  have g0 : DataW.trod enc Tryd.prog W 0 (fun _ => true) true n' 3 [c0] = some y0 := q0
  have q1 : DataW.trod enc Tryd.prog W 0 (fun _ => true) true n' 9 (List.take (Tryd.prog.cellsOf 9) (List.drop 1 [c0, c1, c2, c3, c4])) = some y1 := hg 1 _ rfl
  rw [e3] at q1
  have g1 : DataW.trod enc Tryd.prog W 0 (fun _ => true) true n' 9 [c1] = some y1 := q1
  have q2 : DataW.trod enc Tryd.prog W 0 (fun _ => true) true n' 3 (List.take (Tryd.prog.cellsOf 3) (List.drop 2 [c0, c1, c2, c3, c4])) = some y2 := hg 2 _ rfl
  rw [e1] at q2
  have g2 : DataW.trod enc Tryd.prog W 0 (fun _ => true) true n' 3 [c2] = some y2 := q2
  have q3 : DataW.trod enc Tryd.prog W 0 (fun _ => true) true n' 38 (List.take (Tryd.prog.cellsOf 38) (List.drop 3 [c0, c1, c2, c3, c4])) = some y3 := hg 3 _ rfl
  rw [e2] at q3
  have g3 : DataW.trod enc Tryd.prog W 0 (fun _ => true) true n' 38 [c3] = some y3 := q3
  have q4 : DataW.trod enc Tryd.prog W 0 (fun _ => true) true n' 2 (List.take (Tryd.prog.cellsOf 2) (List.drop 4 [c0, c1, c2, c3, c4])) = some y4 := hg 4 _ rfl
  rw [e4] at q4
  have g4 : DataW.trod enc Tryd.prog W 0 (fun _ => true) true n' 2 [c4] = some y4 := q4
  clear hg hxs hxs' hlen
  obtain ⟨z0, hz0, rfl, hw0⟩ := DataW.trod_int Tryd.underlying3 g0
  obtain ⟨s1, hs1, rfl, hw1⟩ := DataW.trod_string Tryd.underlying9 g1
  obtain ⟨z2, hz2, rfl, hw2⟩ := DataW.trod_int Tryd.underlying3 g2
  obtain ⟨z3, hz3, rfl, hw3⟩ := DataW.trod_int Tryd.underlying38 g3
  obtain ⟨z4, hz4, rfl, hw4⟩ := DataW.trod_int Tryd.underlying2 g4
  cases hz0; cases hs1; cases hz2; cases hz3; cases hz4
  have h3 := u64_pos z3 hw3
  obtain ⟨p3, rfl⟩ := Int.eq_ofNat_of_zero_le h3.1
  refine ⟨⟨z0, s1, z2, p3, z4⟩, rfl, by unfold maxLen at hw1; exact hw1, ?_, by show p3 < _; omega⟩
  simpa [Lit.wf, IntKind.min, IntKind.max, IntKind.signed, IntKind.bits] using hw2

structure ActsJ (W : World) (v : Value) (n : Nat) (A : Nat → ActJ) : Prop where
  shape : n ≤ 140737488355328 ∧ ∃ (a : Option Addr) (cap : Nat), v = .slice a n cap ∧ (0 < n → ∃ b off, a = some ⟨b, off, none⟩ ∧ ∀ j, j < n → W.rangeAt b (off + j * 5) (A j).cells)
  each : ∀ j, j < n → (A j).Ok

set_option maxRecDepth 100000 in
theorem actsj_open {H : Type} {enc : TypeId × Value → H} {W : World} {v : Value} {d : DataW H} {p : List MemPlace} {r : Reach} {base : Nat}
    (hval : Value.okWide Tryd.prog W r base 23 v) (h : DataW.Trod enc Tryd.prog W 0 (fun _ => true) true 23 v d p) (hz : ∀ n ∈ d.weights Tryd.prog 23, n ≤ reachBytes) : ∃ n A, ActsJ W v n A := by
  obtain ⟨a0, len, cap, rfl⟩ := okWide_slice Tryd.underlying23 hval
  obtain ⟨fuel, hf⟩ := h
  rcases Deep.open_slice Tryd.underlying23 hf with ⟨hcs, hx⟩ | ⟨a, len', cap', m, n, D, Pl, hcs, _, hl, hcap, hm, hx, hi⟩
  · simp [Value.cells] at hcs
    obtain ⟨rfl, rfl, rfl⟩ := hcs
    exact ⟨0, fun _ => default, ⟨by omega, none, 0, rfl, fun h => by omega⟩, fun j hj => by omega⟩
  · simp [Value.cells] at hcs
    obtain ⟨rfl, rfl, rfl⟩ := hcs
    simp only [if_true] at hm
    subst hm
    have each : ∀ i, i < m → ∃ A : ActJ, (∀ j, j < 5 → W.cell? ((a.add (i * 5)).add j) = A.cells[j]?) ∧ A.Ok := by
      intro i him
      obtain ⟨cs', hc, ht⟩ := hi i him
      rw [cActJ.1] at hc
      obtain ⟨A, rfl, hok⟩ := actj_cells ht
      exact ⟨A, (World.cells?_some hc).2.2, hok⟩
    have hb47 : len ≤ 140737488355328 := by
      obtain ⟨rfl, rfl⟩ := Prod.mk.inj hx
      have h1 := hz (((List.map D (List.range len)).length + (List.map (fun j => D (len + j)) (List.range (m - len))).length) * Tryd.prog.bytesOf 40) (by simp [DataW.weights, Tryd.underlying23])
      rw [bActJ] at h1
      simp only [List.length_map, List.length_range] at h1
      unfold reachBytes at h1
      omega
    refine ⟨len, fun j => if h : j < m then (each j h).choose else default, ⟨hb47, some a, m, rfl, fun h0 => ?_⟩, fun j hj => ?_⟩
    · obtain ⟨b, off, spot⟩ := a
      obtain ⟨A0, c0, _⟩ := each 0 (by omega)
      have c00 := c0 0 (by omega)
      obtain rfl : spot = none := by
        have : W.cell? ((({ block := b, off := off, spot := spot } : Addr).add (0 * 5)).add 0) = some (.int .i64 A0.kind) := c00
        simpa [Addr.add] using World.cell?_spot this
      refine ⟨b, off, rfl, fun j hj i v hv => ?_⟩
      have hjm : j < m := by omega
      have hc := (each j hjm).choose_spec.1
      simp only [hjm, dif_pos] at hv
      have hi5 : i < 5 := by
        have := (List.getElem?_eq_some_iff.1 hv).1
        simpa [ActJ.cells] using this
      have h1 := hc i hi5
      exact (congrArg W.cell? ((congrArg (fun x => Addr.add x i) (add_plain' b off (j * 5))).trans (add_plain' b (off + j * 5) i))).symm.trans (h1.trans hv)
    · have hjm : j < m := by omega
      simp only [hjm, dif_pos]
      exact (each j hjm).choose_spec.2

theorem infoActJ : (Tryd.prog.info? 40).map (·.size) = some 5 := by kernel_rfl
/-- The box of an act. -/
def actObj (A : ActJ) : Obj := .cells A.cells.toArray 40
/-- The loop's own copy of an act. -/
theorem actj_var (w : World) (A : ActJ) :
    let W0 := w.alloc (.cells #[.int .i64 0, .string { data := #[] }, .int .i64 0, .int .u64 0, .int .i64 0] 40)
    let W1 := W0.setCells w.heap.size 0 A.cells
    W0.there w.heap.size 0 5 ∧ W1.rangeAt w.heap.size 0 A.cells ∧ Below w.heap.size w W1 ∧ w.heap.size < W1.heap.size := by
  have h0 : (w.alloc (.cells #[.int .i64 0, .string { data := #[] }, .int .i64 0, .int .u64 0, .int .i64 0] 40)).heap[w.heap.size]? = some (.cells ([.int .i64 0, .string { data := #[] }, .int .i64 0, .int .u64 0, .int .i64 0] : List Value).toArray 40 (0, 0)) := alloc_at w _
  have h1 := sector.there_of_block (n := 5) h0 (by simp)
  have h2 : Below w.heap.size w ((w.alloc (.cells #[.int .i64 0, .string { data := #[] }, .int .i64 0, .int .u64 0, .int .i64 0] 40)).setCells w.heap.size 0 A.cells) := Below.setCells ((Below.refl _ _).alloc (Nat.le_refl _) _) (Nat.le_refl _) _ _
  have h3 := World.rangeAt_setCells_same (w := w.alloc (.cells #[.int .i64 0, .string { data := #[] }, .int .i64 0, .int .u64 0, .int .i64 0] 40)) w.heap.size 0 A.cells h1
  exact ⟨h1, h3, h2, cell_lt (h3 0 (.int .i64 A.kind) rfl)⟩

set_option maxRecDepth 100000 in
theorem img_open {H : Type} {enc : TypeId × Value → H} {W : World} {r : Reach} {base : Nat} {v : Value} {d : DataW H} {p : List MemPlace}
    (hval : Value.okWide Tryd.prog W r base 22 v) (h : DataW.Trod enc Tryd.prog W 0 (fun _ => true) true 22 v d p) :
    ∃ ns : List Nat, Byt W v ns ∧ ∀ a l c, v = .slice a l c → l ≤ c := by
  obtain ⟨a0, len, cap, rfl⟩ := okWide_slice Tryd.underlying22 hval
  obtain ⟨fuel, hf⟩ := h
  have h0 := fun n h => (u8_pos n h).1
  rcases open_ints Tryd.underlying22 Tryd.underlying5 cu8 hf with ⟨hcs, hx⟩ | ⟨a, len', cap', zs, hcs, _, hl, hm, hzl, hx, hcell, hwz⟩
  · simp [Value.cells] at hcs
    obtain ⟨rfl, rfl, rfl⟩ := hcs
    exact ⟨[], ⟨SlI.nil _ _, by simp, fun b off n c e => (by cases e), fun n c e => (by cases e; rfl)⟩, fun a l c e => by cases e; exact Nat.le_refl _⟩
  · simp [Value.cells] at hcs
    obtain ⟨rfl, rfl, rfl⟩ := hcs
    simp only [if_true] at hzl
    refine ⟨(zs.take len).map Int.toNat, ⟨SlI.of_open hm hl hzl hcell hwz h0, ?_, ?_, fun n c e => (by cases e)⟩, fun a l c e => by cases e; exact hl⟩
    · intro n hn
      obtain ⟨z, hz1, rfl⟩ := List.mem_map.1 hn
      have := u8_pos z (hwz z (List.mem_of_mem_take hz1))
      omega
    · intro b off n c e hp
      cases e
      have := cell?_lt (hcell 0 (by omega))
      simpa [Addr.add] using this

end Go.Proofs.YtkhghkklekjdaaaDoor.journal
