/- What a journal is asked: left, Restart, Next, Room, Append. -/
import Derived.Test.YtkhghkklekjdaaaDoorRows
import Derived.Test.YtkhghkklekjdaaaDoorJournalWrite
namespace Go.Proofs.YtkhghkklekjdaaaDoor.journal
open Go.RowKit
open Go.Proofs.YtkhghkklekjdaaaDoor.kit Go.Proofs.YtkhghkklekjdaaaDoor.own Go.Proofs.YtkhghkklekjdaaaDoor.jm Go.Proofs.YtkhghkklekjdaaaDoor.iter
open Go.Proofs.YtkhghkklekjdaaaDoor.frame (Nib)
open Go.Proofs.YtkhghkklekjdaaaDoor.sector (infoByte bv ba Dev DevAt strN Turn More Does PickOk wErr wDev fErr fDev Byt Write_all Flush_all wDev_more fDev_more)
set_option linter.unusedVariables false
set_option linter.unusedSimpArgs false
attribute [local go_sem] Oper.semAt_some

/-- How many sectors the next record may take. -/
def leftV (end_ at_ next : Nat) : Nat := if 4611686018427387904 < next then 0 else end_ - at_

/-- A journal's variable, whatever its device. -/
def JV (w : World) (J : Nat) (dv : Value) (from_ end_ at_ next : Nat) (torn : Bool) : Prop := w.heap[J]? = some (.cells #[dv, .int .i64 (from_ : Int), .int .i64 (end_ : Int), .int .i64 (at_ : Int), .int .i64 (next : Int), .bool torn] 58 (0, 0))
theorem JBox.v {w : World} {J d from_ end_ at_ next : Nat} {torn : Bool} (h : JBox w J d from_ end_ at_ next torn) : JV w J (.pointer (some ⟨d, 0, none⟩)) from_ end_ at_ next torn := h
theorem JV.cells {w : World} {J from_ end_ at_ next : Nat} {d : Value} {torn : Bool} (h : JV w J d from_ end_ at_ next torn) : w.cell? ⟨J, 0, none⟩ = some d ∧ w.cell? ⟨J, 1, none⟩ = some (.int .i64 (from_ : Int)) ∧ w.cell? ⟨J, 2, none⟩ = some (.int .i64 (end_ : Int)) ∧
    w.cell? ⟨J, 3, none⟩ = some (.int .i64 (at_ : Int)) ∧ w.cell? ⟨J, 4, none⟩ = some (.int .i64 (next : Int)) ∧ w.cell? ⟨J, 5, none⟩ = some (.bool torn) := by
  unfold JV at h
  refine ⟨?_, ?_, ?_, ?_, ?_, ?_⟩ <;> simp [World.cell?, h]
theorem JV.free {w : World} {J from_ end_ at_ next : Nat} {d : Value} {torn : Bool} (h : JV w J d from_ end_ at_ next torn) (j : Nat) : w.frozen? ⟨J, j, none⟩ = false := by
  unfold JV at h
  simp [World.frozen?, h]
theorem JV.drewN {w : World} {J from_ end_ at_ next : Nat} {d : Value} {torn : Bool} (h : JV w J d from_ end_ at_ next torn) (n : Nat) : JV (w.drewN n) J d from_ end_ at_ next torn := h

set_option maxHeartbeats 4000000 in
set_option maxRecDepth 100000 in
theorem left_any (w : World) (J : Nat) (d : Value) (from_ end_ at_ next : Nat) (torn : Bool) (hj : JV w J d from_ end_ at_ next torn) (hae : at_ ≤ end_) (he : end_ < 4611686018427387904) :
    Calls Tryd.prog 41 #[.pointer (some ⟨J, 0, none⟩)] w fun e w' => e = .returned (.int .i64 (leftV end_ at_ next : Nat)) ∧ ∃ n, w' = w.drewN n := by
  obtain ⟨j0, j1, j2, j3, j4, j5⟩ := hj.cells
  clear hj
  unfold leftV
  by_cases hn : 4611686018427387904 < next
  · have hn' : (4611686018427387904 : Int) < (next : Int) := by omega
    rw [if_pos hn]
    clear hn hae he
    go_enter Tryd.func41, Tryd.ntmps41
    go_wp2
    go_ret
    exact ⟨rfl, 0, rfl⟩
  · have hn' : ¬ (4611686018427387904 : Int) < (next : Int) := by omega
    rw [if_neg hn]
    obtain ⟨q, rfl⟩ : ∃ q, end_ = at_ + q := ⟨end_ - at_, by omega⟩
    rw [Nat.add_sub_cancel_left]
    have e1 : True → wrap64 (((at_ + q : Nat) : Int) - (at_ : Int)) = (q : Int) := fun _ => by unfold wrap64; omega
    have e2 : True → IntKind.i64.wrap (((at_ + q : Nat) : Int) - (at_ : Int)) = (q : Int) := fun _ => by rw [IntKind.wrap_i64]; omega
    generalize at_ + q = en at j2 e1 e2
    clear hn hae he
    go_enter Tryd.func41, Tryd.ntmps41
    go_wp2
    go_quiet (fail)
    go_wp2
    go_ret
    exact ⟨rfl, _, rfl⟩

set_option maxRecDepth 100000 in
theorem Restart_nil (w : World) : Calls Tryd.prog 16 #[.pointer none] w fun e w' => e = .returned (.tuple #[]) ∧ w = w' := by
  go_enter Tryd.func16, Tryd.ntmps16
  go_wp2
  refine bodyPost_end (results_none rfl _ _ _) rfl ?_
  exact ⟨rfl, rfl⟩
set_option maxRecDepth 100000 in
theorem Next_nil (w : World) : Calls Tryd.prog 24 #[.pointer none] w fun e w' => e = .returned (.int .i64 0) ∧ w = w' := by
  go_enter Tryd.func24, Tryd.ntmps24
  go_wp2
  go_ret
  exact ⟨rfl, rfl⟩
set_option maxRecDepth 100000 in
theorem Next_any (w : World) (J : Nat) (d : Value) (from_ end_ at_ next : Nat) (torn : Bool) (hj : JV w J d from_ end_ at_ next torn) : Calls Tryd.prog 24 #[.pointer (some ⟨J, 0, none⟩)] w fun e w' => e = .returned (.int .i64 (next : Nat)) ∧ w = w' := by
  obtain ⟨j0, j1, j2, j3, j4, j5⟩ := hj.cells
  clear hj
  go_enter Tryd.func24, Tryd.ntmps24
  go_wp2
  go_ret
  exact ⟨rfl, rfl⟩
set_option maxRecDepth 100000 in
theorem Room_nil (w : World) : Calls Tryd.prog 26 #[.pointer none] w fun e w' => e = .returned (.int .i64 (-1)) ∧ w = w' := by
  go_enter Tryd.func26, Tryd.ntmps26
  go_wp2
  go_ret
  exact ⟨rfl, rfl⟩
set_option maxRecDepth 100000 in
theorem Append_nil (w : World) (v : Value) : Calls Tryd.prog 14 #[.pointer none, v] w fun e w' => e = .returned (.int .i64 22) ∧ w = w' := by
  go_enter Tryd.func14, Tryd.ntmps14
  go_wp2
  go_ret
  exact ⟨rfl, rfl⟩
set_option maxRecDepth 100000 in
theorem Restart_any (w : World) (J : Nat) (d : Value) (from_ end_ at_ next : Nat) (torn : Bool) (hj : JV w J d from_ end_ at_ next torn) : Calls Tryd.prog 16 #[.pointer (some ⟨J, 0, none⟩)] w fun e w' => e = .returned (.tuple #[]) ∧ w' = w.setCell ⟨J, 3, none⟩ (.int .i64 (from_ : Int)) := by
  obtain ⟨j0, j1, j2, j3, j4, j5⟩ := hj.cells
  have f3 := hj.free 3
  clear hj
  go_enter Tryd.func16, Tryd.ntmps16
  go_wp2
  refine bodyPost_end (results_none rfl _ _ _) rfl ?_
  exact ⟨rfl, rfl⟩

/-- What Room tells. -/
def roomV (end_ at_ next : Nat) : Int := if leftV end_ at_ next < 1 then -1 else 47 + 55 * ((leftV end_ at_ next : Nat) - 1 : Int)
theorem JBox.drewN {w : World} {J d from_ end_ at_ next : Nat} {torn : Bool} (h : JBox w J d from_ end_ at_ next torn) (n : Nat) : JBox (w.drewN n) J d from_ end_ at_ next torn := h
theorem leftV_le (end_ at_ next : Nat) : leftV end_ at_ next ≤ end_ := by unfold leftV; split <;> omega

set_option maxHeartbeats 4000000 in
set_option maxRecDepth 100000 in
theorem Room_any (w : World) (J : Nat) (d : Value) (from_ end_ at_ next : Nat) (torn : Bool) (hj : JV w J d from_ end_ at_ next torn) (hae : at_ ≤ end_) (he : end_ ≤ 1000000) :
    Calls Tryd.prog 26 #[.pointer (some ⟨J, 0, none⟩)] w fun e w' => e = .returned (.int .i64 (roomV end_ at_ next)) ∧ ∃ n, w' = w.drewN n := by
  have HL := Lib.hid (left_any w J d from_ end_ at_ next torn hj hae (by omega))
  have HL2 := Lib.hid fun n => left_any (w.drewN n) J d from_ end_ at_ next torn (hj.drewN n) hae (by omega)
  have hle := leftV_le end_ at_ next
  unfold roomV
  generalize leftV end_ at_ next = q at HL HL2 hle ⊢
  have hlt : (q : Int) < 1000001 := by omega
  clear hj hae he hle
  by_cases hq : q < 1
  · have hq' : (q : Int) < 1 := by omega
    rw [if_pos hq]
    clear hq
    go_enter Tryd.func26, Tryd.ntmps26
    go_wp2_with fail
    refine HL.out.mono ?_
    rintro e w' ⟨rfl, n, rfl⟩
    go_wp2
    go_ret
    exact ⟨rfl, _, rfl⟩
  · have hq' : ¬ (q : Int) < 1 := by omega
    rw [if_neg hq]
    obtain ⟨x, hx⟩ : ∃ x : Int, (q : Int) - 1 = x := ⟨_, rfl⟩
    obtain ⟨y, hy⟩ : ∃ y : Int, 55 * x = y := ⟨_, rfl⟩
    obtain ⟨z, hz⟩ : ∃ z : Int, 47 + y = z := ⟨_, rfl⟩
    rw [hx, hy, hz]
    have e1 : True → wrap64 ((q : Int) - 1) = x := fun _ => by unfold wrap64; omega
    have e2 : True → wrap64 (55 * x) = y := fun _ => by unfold wrap64; omega
    have e3 : True → wrap64 (47 + y) = z := fun _ => by unfold wrap64; omega
    clear hx hy hz hq hlt
    generalize (q : Int) = qi at HL HL2 e1 hq'
    go_enter Tryd.func26, Tryd.ntmps26
    go_wp2_with fail
    refine HL.out.mono ?_
    rintro e w' ⟨rfl, n, rfl⟩
    go_wp2_with fail
    refine (HL2.out n).mono ?_
    rintro e w' ⟨rfl, n2, rfl⟩
    go_wp2
    go_ret
    exact ⟨by have := e3 trivial; simp [this], n + n2, rfl⟩

set_option maxHeartbeats 4000000 in
set_option maxRecDepth 100000 in
/-- A journal that nobody opened. -/
theorem Append_zero (w : World) (J from_ end_ at_ next : Nat) (v : Value) (hj : JV w J (.pointer none) from_ end_ at_ next false) : Calls Tryd.prog 14 #[.pointer (some ⟨J, 0, none⟩), v] w fun e w' => e = .returned (.int .i64 22) ∧ w = w' := by
  obtain ⟨j0, j1, j2, j3, j4, j5⟩ := hj.cells
  have HDd := Lib.hid (sector.Dead_nil w)
  clear hj
  go_enter Tryd.func14, Tryd.ntmps14
  go_wp2_with fail
  refine HDd.out.mono ?_
  rintro e w' ⟨rfl, rfl⟩
  go_wp2
  go_ret
  exact ⟨rfl, rfl⟩
/-- A journal's own numbers. -/
structure Jn where
  d : Nat
  from_ : Nat
  end_ : Nat
  at_ : Nat
  next : Nat
  torn : Bool
def JAt (w : World) (J : Nat) (j : Jn) : Prop := JBox w J j.d j.from_ j.end_ j.at_ j.next j.torn
/-- What Append comes to. -/
noncomputable def appendE (j : Jn) (text : List Nat) (m : Dev) : Int := if j.torn = true ∨ m.power = false then 22 else if leftV j.end_ j.at_ j.next < need text.length then 21 else if (appD j.next text j.at_ m).2 then 0 else 22
noncomputable def appendJ (j : Jn) (text : List Nat) (m : Dev) : Jn := if j.torn = true ∨ m.power = false then j else if leftV j.end_ j.at_ j.next < need text.length then j else if (appD j.next text j.at_ m).2 then { j with at_ := j.at_ + need text.length, next := j.next + 1 } else { j with torn := true }
noncomputable def appendM (j : Jn) (text : List Nat) (m : Dev) : Dev := if j.torn = true ∨ m.power = false then m else if leftV j.end_ j.at_ j.next < need text.length then m else (appD j.next text j.at_ m).1
def AppS (w : World) (Z : Nat → Prop) (J : Nat) (j : Jn) (text : List Nat) (m : Dev) (e : Ending) (w' : World) : Prop :=
  e = .returned (.int .i64 (appendE j text m)) ∧ JAt w' J (appendJ j text m) ∧ DevAt w' (More Z w w') j.d (appendM j text m) ∧ Turn (fun k => Z k ∨ k = J) w w' ∧ PickOk (appendM j text m)

theorem turn_drewN (Z : Nat → Prop) (w : World) (n : Nat) : Turn Z w (w.drewN n) := ⟨rfl, rfl, rfl, Nat.le_refl _, fun _ _ _ => rfl⟩
theorem Turn.wider {Z Z' : Nat → Prop} {w w' : World} (h : Turn Z w w') (hz : ∀ k, Z k → Z' k) : Turn Z' w w' := ⟨h.os, h.tape, h.output, h.size, fun k hk hn => h.block k hk (fun hz2 => hn (hz k hz2))⟩
theorem dev_more {w w' : World} {Z : Nat → Prop} {d : Nat} {m : Dev} (h : DevAt w Z d m) (ht : ∀ k, k < w.heap.size → w'.heap[k]? = w.heap[k]?) (hs : w'.heap.size = w.heap.size) : DevAt w' (More Z w w') d m := by
  have h1 : DevAt w' Z d m := h.stays (fun k hk => ht k (h.lt k hk)) (by omega)
  obtain ⟨ok, vo, vb, vl, hl⟩ := h1
  refine ⟨ok, vo, vb, vl, hl.widen (fun k hk => .inl hk) (fun k hk => ?_)⟩
  rcases hk with hk | hk
  · exact hl.zlt k hk
  · exact hk.2

theorem app_close {w w8 W : World} {Z : Nat → Prop} {d J n : Nat} {m' : Dev} (hd8 : DevAt w8 (More Z (w.drewN n) w8) d m') (ht8 : Turn Z (w.drewN n) w8) (hzj : ¬ Z J) (hJ : J < w.heap.size) (hW : ∀ k, k ≠ J → W.heap[k]? = w8.heap[k]?) (hs : W.heap.size = w8.heap.size)
    (h1 : W.os = w8.os) (h2 : W.tape = w8.tape) (h3 : W.output = w8.output) : DevAt W (More Z w W) d m' ∧ Turn (fun k => Z k ∨ k = J) w W := by
  have hz0 : (w.drewN n).heap.size = w.heap.size := rfl
  have hsz := ht8.size
  have hd9 : DevAt W (More Z (w.drewN n) w8) d m' := hd8.stays (fun k hk => hW k (fun e => by
    rcases hk with hk | hk
    · exact hzj (e ▸ hk)
    · omega)) (by omega)
  refine ⟨?_, h1.trans ht8.os, h2.trans ht8.tape, h3.trans ht8.output, by omega, fun k hk hn => (hW k (fun e => hn (.inr e))).trans (ht8.block k (by omega) (fun hz => hn (.inl hz)))⟩
  obtain ⟨ok, vo, vb, vl, hl⟩ := hd9
  refine ⟨ok, vo, vb, vl, hl.widen (fun k hk => ?_) (fun k hk => ?_)⟩
  · rcases hk with hk | hk
    · exact .inl hk
    · exact .inr ⟨by omega, by omega⟩
  · rcases hk with hk | hk
    · exact hl.zlt k (.inl hk)
    · exact hk.2
theorem JBox.setTorn {w : World} {J d from_ end_ at_ next : Nat} {torn : Bool} (h : JBox w J d from_ end_ at_ next torn) : JBox (w.setCell ⟨J, 5, none⟩ (.bool true)) J d from_ end_ at_ next true := by
  unfold JBox at h ⊢
  simpa using heap_setCell_same w J 5 _ _ (.bool true) h
theorem JBox.setAt {w : World} {J d from_ end_ at_ next : Nat} {torn : Bool} (h : JBox w J d from_ end_ at_ next torn) (a : Nat) : JBox (w.setCell ⟨J, 3, none⟩ (.int .i64 (a : Int))) J d from_ end_ a next torn := by
  unfold JBox at h ⊢
  simpa using heap_setCell_same w J 3 _ _ (.int .i64 (a : Int)) h
theorem JBox.setNext {w : World} {J d from_ end_ at_ next : Nat} {torn : Bool} (h : JBox w J d from_ end_ at_ next torn) (a : Nat) : JBox (w.setCell ⟨J, 4, none⟩ (.int .i64 (a : Int))) J d from_ end_ at_ a torn := by
  unfold JBox at h ⊢
  simpa using heap_setCell_same w J 4 _ _ (.int .i64 (a : Int)) h

set_option maxHeartbeats 8000000 in
set_option maxRecDepth 100000 in
theorem Append_any (w : World) (Z : Nat → Prop) (J : Nat) (j : Jn) (m : Dev) (text : List Nat) (hj : JAt w J j) (hd : DevAt w Z j.d m) (hpk : PickOk m) (hzj : ¬ Z J) (hzn : ¬ Z 0) (hN : Nib w)
    (h8 : ∀ x ∈ text, x < 256) (hlen : text.length ≤ 9223372036854775807) (hnext : j.next < 9223372036854775807) (hae : j.at_ ≤ j.end_) (he : j.end_ ≤ 4096) (hws : m.ws + 2000000 < 4611686018427387904) (hfs : m.fs + 1 < 4611686018427387904) :
    Calls Tryd.prog 14 #[.pointer (some ⟨J, 0, none⟩), .string (strN text)] w (AppS w Z J j text m) := by
  obtain ⟨d, from_, end_, at_, next, torn⟩ := j
  simp only at hd hnext hae he
  have hjb : JBox w J d from_ end_ at_ next torn := hj
  obtain ⟨j0, j1, j2, j3, j4, j5⟩ := hjb.cells
  have base : ∀ n, JAt (w.drewN n) J ⟨d, from_, end_, at_, next, torn⟩ ∧ DevAt (w.drewN n) (More Z w (w.drewN n)) d m ∧ Turn (fun k => Z k ∨ k = J) w (w.drewN n) ∧ PickOk m := fun n =>
    ⟨hj, dev_more hd (fun _ _ => rfl) rfl, turn_drewN _ _ _, hpk⟩
  cases torn with
  | true =>
    have HP : Hid (AppS w Z J ⟨d, from_, end_, at_, next, true⟩ text m (.returned (.int .i64 22)) w) := Lib.hid (by
      unfold AppS appendE appendJ appendM
      rw [if_pos (.inl rfl), if_pos (.inl rfl), if_pos (.inl rfl)]
      exact ⟨rfl, base 0⟩)
    clear base hj hd hpk hzj hzn hN h8 hlen hnext hae he hws hfs hjb
    go_enter Tryd.func14, Tryd.ntmps14
    go_wp2
    go_ret
    exact HP.out
  | false =>
  have HDd := Lib.hid (sector.Dead_any w Z d m hd)
  cases hp : m.power with
  | false =>
    have HP : Hid (AppS w Z J ⟨d, from_, end_, at_, next, false⟩ text m (.returned (.int .i64 22)) w) := Lib.hid (by
      unfold AppS appendE appendJ appendM
      rw [if_pos (.inr hp), if_pos (.inr hp), if_pos (.inr hp)]
      exact ⟨rfl, base 0⟩)
    rw [hp] at HDd
    clear base hj hd hpk hzj hzn hN h8 hlen hnext hae he hws hfs hjb hp
    go_enter Tryd.func14, Tryd.ntmps14
    go_wp2_with fail
    refine HDd.out.mono ?_
    rintro e w' ⟨rfl, rfl⟩
    go_wp2
    go_ret
    exact HP.out
  | true =>
  rw [hp] at HDd
  have HLf := Lib.hid (left_any w J _ from_ end_ at_ next false hjb.v hae (by omega))
  have hnd := Need_any (text.length : Int) w (by omega) (by omega)
  rw [Int.toNat_natCast] at hnd
  have HNd := Lib.hid hnd
  clear hnd
  have hno : ¬ ((⟨d, from_, end_, at_, next, false⟩ : Jn).torn = true ∨ m.power = false) := by simp [hp]
  have hsz := strN_size text
  have hJl := hjb.lt
  by_cases hful : leftV end_ at_ next < need text.length
  · have HP : Hid (∀ n, AppS w Z J ⟨d, from_, end_, at_, next, false⟩ text m (.returned (.int .i64 21)) (w.drewN n)) := Lib.hid (fun n => by
      unfold AppS appendE appendJ appendM
      rw [if_neg hno, if_neg hno, if_neg hno, if_pos hful, if_pos hful, if_pos hful]
      exact ⟨rfl, base n⟩)
    have hf2 : ((leftV end_ at_ next : Nat) : Int) < ((need text.length : Nat) : Int) := by omega
    generalize ((leftV end_ at_ next : Nat) : Int) = q at HLf hf2
    generalize ((need text.length : Nat) : Int) = k at HNd hf2
    rw [← hsz] at HNd
    clear base hj hd hpk hzj hzn hN h8 hlen hnext hae he hws hfs hjb hp hful hsz hJl hno
    go_enter Tryd.func14, Tryd.ntmps14
    go_wp2_with fail
    refine HDd.out.mono ?_
    rintro e w' ⟨rfl, rfl⟩
    go_wp2_with fail
    refine HNd.out.mono ?_
    rintro e w' ⟨rfl, rfl⟩
    go_wp2_with fail
    refine HLf.out.mono ?_
    rintro e w' ⟨rfl, n, rfl⟩
    go_wp2
    go_ret
    exact HP.out _
  · have HJb := Lib.hid hjb; have HZj := Lib.hid hzj; have HJl := Lib.hid hJl
    have hle := leftV_le end_ at_ next
    have hlen2 : text.length ≤ 1000000 := by have := need_ge text.length; omega
    have hwr := fun n => write_any (w.drewN n) Z J d from_ end_ at_ next false m text (hjb.drewN n) (hd.stays (fun _ _ => rfl) (Nat.le_refl _)) hpk hzj hzn hN h8 hlen2 (by omega) (by omega) hws hfs
    have HWr := Lib.hid hwr
    have hnl := need_le text.length
    have HSp : Hid (∀ w9, JAt w9 J (if (appD next text at_ m).2 then ⟨d, from_, end_, at_ + need text.length, next + 1, false⟩ else ⟨d, from_, end_, at_, next, true⟩) → DevAt w9 (More Z w w9) d (appD next text at_ m).1 → Turn (fun k => Z k ∨ k = J) w w9 → PickOk (appD next text at_ m).1 →
        AppS w Z J ⟨d, from_, end_, at_, next, false⟩ text m (.returned (.int .i64 (if (appD next text at_ m).2 then 0 else 22))) w9) := Lib.hid (fun w9 g1 g2 g3 g4 => by
      unfold AppS appendE appendJ appendM
      rw [if_neg hno, if_neg hno, if_neg hno, if_neg hful, if_neg hful, if_neg hful]
      exact ⟨rfl, g1, g2, g3, g4⟩)
    have hf2 : ¬ ((leftV end_ at_ next : Nat) : Int) < ((need text.length : Nat) : Int) := by omega
    have e1 : True → wrap64 ((at_ : Int) + ((need text.length : Nat) : Int)) = ((at_ + need text.length : Nat) : Int) := fun _ => by unfold wrap64; omega
    have e2 : True → wrap64 ((next : Int) + 1) = ((next + 1 : Nat) : Int) := fun _ => by unfold wrap64; omega
    generalize at_ + need text.length = a9 at HSp e1
    generalize next + 1 = n9 at HSp e2
    generalize hAD : appD next text at_ m = r at HSp hwr HWr
    generalize ((leftV end_ at_ next : Nat) : Int) = q at HLf hf2
    generalize ((need text.length : Nat) : Int) = k at HNd hf2 e1
    rw [← hsz] at HNd
    clear base hj hd hpk hzj hzn hN h8 hlen hlen2 hnext hae he hws hfs hjb hp hful hwr hsz hJl hno hle hnl hAD
    obtain ⟨mr, br⟩ := r
    go_enter Tryd.func14, Tryd.ntmps14
    go_wp2_with fail
    refine HDd.out.mono ?_
    rintro e w' ⟨rfl, rfl⟩
    go_wp2_with fail
    refine HNd.out.mono ?_
    rintro e w' ⟨rfl, rfl⟩
    go_wp2_with fail
    refine HLf.out.mono ?_
    rintro e w' ⟨rfl, n, rfl⟩
    go_wp2_with fail
    refine (HWr.out n).mono ?_
    rintro e w8 ⟨rfl, hd8, ht8, hpk8⟩
    have hb8 : JBox w8 J d from_ end_ at_ next false := (ht8.block J (by exact HJl.out) HZj.out).trans HJb.out
    have HD8 := Lib.hid hd8; have HT8 := Lib.hid ht8; have HPk8 := Lib.hid hpk8; have HB8 := Lib.hid hb8
    obtain ⟨p0, p1, p2, p3, p4, p5⟩ := hb8.cells
    have f3 := hb8.free 3; have f4 := hb8.free 4; have f5 := hb8.free 5
    clear hd8 ht8 hpk8 hb8 j0 j1 j2 j3 j4 j5
    cases br with
    | true =>
      simp only [Bool.not_true]
      go_wp2
      go_ret
      have hc := app_close (W := (w8.setCell ⟨J, 3, none⟩ (.int .i64 (a9 : Int))).setCell ⟨J, 4, none⟩ (.int .i64 (n9 : Int))) HD8.out HT8.out HZj.out HJl.out (fun k hk => (heap_setCell_other _ ⟨J, 4, none⟩ k _ hk).trans (heap_setCell_other w8 ⟨J, 3, none⟩ k _ hk)) (by simp) rfl rfl rfl
      exact HSp.out _ ((HB8.out.setAt a9).setNext n9) hc.1 hc.2 HPk8.out
    | false =>
      simp only [Bool.not_false]
      go_wp2
      go_ret
      have hc := app_close (W := w8.setCell ⟨J, 5, none⟩ (.bool true)) HD8.out HT8.out HZj.out HJl.out (fun k hk => (heap_setCell_other w8 ⟨J, 5, none⟩ k _ hk)) (by simp) rfl rfl rfl
      exact HSp.out _ HB8.out.setTorn hc.1 hc.2 HPk8.out

end Go.Proofs.YtkhghkklekjdaaaDoor.journal
