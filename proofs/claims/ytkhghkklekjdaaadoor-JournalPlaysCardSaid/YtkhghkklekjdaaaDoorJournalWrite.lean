/- A record is laid down: write. -/
import Derived.Test.YtkhghkklekjdaaaDoorRows
import Derived.Test.YtkhghkklekjdaaaDoorJournalLaid
import Derived.Test.YtkhghkklekjdaaaDoorJournalFence
import Derived.Test.YtkhghkklekjdaaaDoorJournalDev
namespace Go.Proofs.YtkhghkklekjdaaaDoor.journal
open Go.RowKit
open Go.Proofs.YtkhghkklekjdaaaDoor.kit Go.Proofs.YtkhghkklekjdaaaDoor.own Go.Proofs.YtkhghkklekjdaaaDoor.jm Go.Proofs.YtkhghkklekjdaaaDoor.iter
open Go.Proofs.YtkhghkklekjdaaaDoor.frame (Nib)
open Go.Proofs.YtkhghkklekjdaaaDoor.sector (infoByte bv ba Dev DevAt strN Turn More Does PickOk wErr wDev fErr fDev Byt Write_all Flush_all wDev_more fDev_more)
set_option linter.unusedVariables false
set_option linter.unusedSimpArgs false
attribute [local go_sem] Oper.semAt_some

/-- What becomes of a device where a record's sectors are written from i on, f of them, and flushed; and whether the power stayed. -/
noncomputable def appGo (num : Nat) (text : List Nat) (z : Nat) : Nat → Nat → Dev → Dev × Bool
  | 0, _, m => (fDev m, decide (fErr m = 0))
  | f + 1, i, m => if wErr m ((z + i : Nat) : Int) 64 = 0 then appGo num text z f (i + 1) (wDev m ((z + i : Nat) : Int) (pieceB num text i)) else (wDev m ((z + i : Nat) : Int) (pieceB num text i), false)
noncomputable def appD (num : Nat) (text : List Nat) (z : Nat) (m : Dev) : Dev × Bool := appGo num text z (need text.length) 0 m

/-- A journal's variable. -/
def JBox (w : World) (J d from_ end_ at_ next : Nat) (torn : Bool) : Prop := w.heap[J]? = some (.cells #[.pointer (some ⟨d, 0, none⟩), .int .i64 (from_ : Int), .int .i64 (end_ : Int), .int .i64 (at_ : Int), .int .i64 (next : Int), .bool torn] 58 (0, 0))
theorem JBox.cells {w : World} {J d from_ end_ at_ next : Nat} {torn : Bool} (h : JBox w J d from_ end_ at_ next torn) : w.cell? ⟨J, 0, none⟩ = some (.pointer (some ⟨d, 0, none⟩)) ∧ w.cell? ⟨J, 1, none⟩ = some (.int .i64 (from_ : Int)) ∧ w.cell? ⟨J, 2, none⟩ = some (.int .i64 (end_ : Int)) ∧
    w.cell? ⟨J, 3, none⟩ = some (.int .i64 (at_ : Int)) ∧ w.cell? ⟨J, 4, none⟩ = some (.int .i64 (next : Int)) ∧ w.cell? ⟨J, 5, none⟩ = some (.bool torn) := by
  unfold JBox at h
  refine ⟨?_, ?_, ?_, ?_, ?_, ?_⟩ <;> simp [World.cell?, h]
theorem JBox.free {w : World} {J d from_ end_ at_ next : Nat} {torn : Bool} (h : JBox w J d from_ end_ at_ next torn) (j : Nat) : w.frozen? ⟨J, j, none⟩ = false := by
  unfold JBox at h
  simp [World.frozen?, h]
theorem JBox.lt {w : World} {J d from_ end_ at_ next : Nat} {torn : Bool} (h : JBox w J d from_ end_ at_ next torn) : J < w.heap.size := (Array.getElem?_eq_some_iff.1 h).1

set_option maxHeartbeats 4000000 in
set_option maxRecDepth 100000 in
theorem laid_any (num : Nat) (s : ByteArray) (w : World) : Calls Tryd.prog 56 #[.int .i64 (num : Int), .string s] w fun e w' =>
    e = .returned (.func (.func 67) #[] #[.pointer (some ⟨w.heap.size, 0, none⟩), .pointer (some ⟨w.heap.size + 1, 0, none⟩)]) ∧ w' = (w.alloc (.cells #[.int .i64 (num : Int)] 2)).alloc (.cells #[.string s] 9) := by
  have hmf : ∀ (fn : Fn) (first cap : Array Value) (w : World), (Instr.makeFunc fn first cap).run Tryd.prog w = .ok (.func fn first cap) w := fun _ _ _ _ => rfl
  go_enter Tryd.func56, Tryd.ntmps56
  go_wp2
  go_ret
  exact ⟨rfl, rfl⟩

/-- What 'write' keeps: N is where its own variables begin. -/
structure WB (N : Nat) (w : World) (Z : Nat → Prop) (J d : Nat) (z i : Nat) (m : Dev) (W : World) : Prop where
  os : W.os = w.os
  tape : W.tape = w.tape
  output : W.output = w.output
  size : N + 7 ≤ W.heap.size
  block : ∀ k, k < N → ¬ Z k → W.heap[k]? = w.heap[k]?
  dev : ∃ Z', DevAt W Z' d m ∧ ∀ k, Z' k → Z k ∨ N + 7 ≤ k
  pj : W.heap[N]? = some (.cells #[.pointer (some ⟨J, 0, none⟩)] 29 (0, 0))
  pr : W.heap[N + 1]? = some (.cells #[.bool false] 4 (0, 0))
  pk : W.heap[N + 2]? = some (.cells #[.int .i64 ((z + i : Nat) : Int)] 3 (0, 0))
  pick : PickOk m

section
variable {N : Nat} {w : World} {Z : Nat → Prop} {J d z i : Nat} {m : Dev} {W : World}
/-- Only blocks of the device, and what is none of ours, are turned. -/
theorem WB.turn {W' : World} {Q : Nat → Prop} (h : WB N w Z J d z i m W) (hZN : ∀ k, Z k → k < N) (ht : Turn Q W W') (hQ : ∀ k, Q k → N + 3 ≤ k ∧ k < N + 7) : WB N w Z J d z i m W' := by
  obtain ⟨Z', h1, h2⟩ := h.dev
  have hs := h.size
  have o : ∀ k, k < W.heap.size → ¬ Q k → W'.heap[k]? = W.heap[k]? := ht.block
  refine ⟨ht.os.trans h.os, ht.tape.trans h.tape, ht.output.trans h.output, Nat.le_trans hs ht.size, fun k hk hz => (o k (by omega) (fun hq => by have := hQ k hq; omega)).trans (h.block k hk hz), ⟨Z', h1.stays (fun k hk => o k (h1.lt k hk) (fun hq => ?_)) ht.size, h2⟩, (o _ (by omega) (fun hq => by have := hQ _ hq; omega)).trans h.pj, (o _ (by omega) (fun hq => by have := hQ _ hq; omega)).trans h.pr, (o _ (by omega) (fun hq => by have := hQ _ hq; omega)).trans h.pk, h.pick⟩
  have := hQ k hq
  rcases h2 k hk with hk2 | hk2
  · have := hZN k hk2; omega
  · omega
/-- A call of the device. -/
theorem WB.does {W' : World} {m' : Dev} {Z' : Nat → Prop} (h : WB N w Z J d z i m W) (hZN : ∀ k, Z k → k < N) (hz' : ∀ k, Z' k → Z k ∨ N + 7 ≤ k) (hd : DevAt W' (More Z' W W') d m') (ht : Turn Z' W W') (hp : PickOk m') : WB N w Z J d z i m' W' := by
  have hs := h.size
  have nz : ∀ k, N ≤ k → k < N + 7 → ¬ Z' k := fun k h1 h2 h3 => by
    rcases hz' k h3 with h4 | h4
    · have := hZN k h4; omega
    · omega
  refine ⟨ht.os.trans h.os, ht.tape.trans h.tape, ht.output.trans h.output, Nat.le_trans hs ht.size, fun k hk hz => (ht.block k (by omega) (fun h3 => ?_)).trans (h.block k hk hz), ⟨_, hd, fun k hk => ?_⟩, (ht.block _ (by omega) (nz _ (by omega) (by omega))).trans h.pj, (ht.block _ (by omega) (nz _ (by omega) (by omega))).trans h.pr, (ht.block _ (by omega) (nz _ (by omega) (by omega))).trans h.pk, hp⟩
  · rcases hz' k h3 with h4 | h4
    · exact hz h4
    · omega
  · rcases hk with hk | hk
    · exact hz' k hk
    · exact .inr (by omega)
theorem WB.setR (h : WB N w Z J d z i m W) (hZN : ∀ k, Z k → k < N) : WB N w Z J d z i m (W.setCell ⟨N + 1, 0, none⟩ (.bool false)) := by
  obtain ⟨Z', h1, h2⟩ := h.dev
  have o : ∀ k, k ≠ N + 1 → (W.setCell ⟨N + 1, 0, none⟩ (.bool false)).heap[k]? = W.heap[k]? := fun k hk => heap_setCell_other W ⟨N + 1, 0, none⟩ k _ hk
  refine ⟨h.os, h.tape, h.output, by simpa using h.size, fun k hk hz => (o k (by omega)).trans (h.block k hk hz), ⟨Z', h1.stays (fun k hk => o k (fun e => ?_)) (by simp), h2⟩, (o _ (by omega)).trans h.pj, by simpa using heap_setCell_same W (N + 1) 0 _ _ (.bool false) h.pr, (o _ (by omega)).trans h.pk, h.pick⟩
  rcases h2 k hk with hk2 | hk2
  · have := hZN k hk2; omega
  · omega
theorem WB.jb {from_ end_ at_ next : Nat} {torn : Bool} (h : WB N w Z J d z i m W) (hj : JBox w J d from_ end_ at_ next torn) (hJN : J < N) (hzj : ¬ Z J) : JBox W J d from_ end_ at_ next torn := (h.block J hJN hzj).trans hj
theorem WB.setK (h : WB N w Z J d z i m W) (hZN : ∀ k, Z k → k < N) : WB N w Z J d z (i + 1) m (W.setCell ⟨N + 2, 0, none⟩ (.int .i64 ((z + (i + 1) : Nat) : Int))) := by
  obtain ⟨Z', h1, h2⟩ := h.dev
  have o : ∀ k, k ≠ N + 2 → (W.setCell ⟨N + 2, 0, none⟩ (.int .i64 ((z + (i + 1) : Nat) : Int))).heap[k]? = W.heap[k]? := fun k hk => heap_setCell_other W ⟨N + 2, 0, none⟩ k _ hk
  refine ⟨h.os, h.tape, h.output, by simpa using h.size, fun k hk hz => (o k (by omega)).trans (h.block k hk hz), ⟨Z', h1.stays (fun k hk => o k (fun e => ?_)) (by simp), h2⟩, (o _ (by omega)).trans h.pj, (o _ (by omega)).trans h.pr, by simpa using heap_setCell_same W (N + 2) 0 _ _ (.int .i64 ((z + (i + 1) : Nat) : Int)) h.pk, h.pick⟩
  rcases h2 k hk with hk2 | hk2
  · have := hZN k hk2; omega
  · omega
end

theorem load_bool {w : World} {b : Nat} {v : Value} (hc : w.cell? ⟨b, 0, none⟩ = some v) : (loadVar 4 ⟨b, 0, none⟩).run Tryd.prog w = .ok v w := by
  have ha : (isAgg 4).run Tryd.prog w = .ok false w := by
    unfold isAgg
    rw [Sem.run_bind, run_underlying Tryd.underlying4 w]
    simp
  simp [loadVar, Sem.run_bind, ha, hc]
theorem ret1 {N : Nat} {b : Bool} {W : World} (h : W.heap[N + 1]? = some (.cells #[.bool b] 4 (0, 0))) {tmps : Array Value} (h4 : tmps.getD 4 undef = .pointer (some ⟨N + 1, 0, none⟩)) :
    (results Tryd.f42 tmps).run Tryd.prog W = .ok (.bool b) W := by
  have h4' : tmps[4]?.getD undef = .pointer (some ⟨N + 1, 0, none⟩) := by simpa using h4
  have l3 := load_bool (box_cell h)
  simp [results, h4', asAddr, l3]
/-- What it comes to at the end. -/
theorem WB.close {N : Nat} {w : World} {Z : Nat → Prop} {J d z i : Nat} {m : Dev} {W : World} (h : WB N w Z J d z i m W) (hZN : ∀ k, Z k → k < N) (hN : w.heap.size = N) : DevAt W (More Z w W) d m ∧ Turn Z w W := by
  obtain ⟨Z', h1, h2⟩ := h.dev
  have hs := h.size
  refine ⟨?_, h.os, h.tape, h.output, by omega, fun k hk hz => h.block k (by omega) hz⟩
  obtain ⟨ok, vo, vb, vl, hl⟩ := h1
  refine ⟨ok, vo, vb, vl, hl.widen (fun k hk => ?_) (fun k hk => ?_)⟩
  · have := hl.zlt k hk
    rcases h2 k hk with hk2 | hk2
    · exact .inl hk2
    · exact .inr ⟨by omega, this⟩
  · rcases hk with hk | hk
    · have := hZN k hk; omega
    · exact hk.2

theorem WB.fin {N : Nat} {w : World} {Z : Nat → Prop} {J d z i : Nat} {m : Dev} {W : World} (h : WB N w Z J d z i m W) (hZN : ∀ k, Z k → k < N) (hN : w.heap.size = N) (b : Bool) :
    DevAt ((W.setCell ⟨N + 1, 0, none⟩ (.bool b)).putObj (N + 5) (.deferred none)) (More Z w ((W.setCell ⟨N + 1, 0, none⟩ (.bool b)).putObj (N + 5) (.deferred none))) d m ∧ Turn Z w ((W.setCell ⟨N + 1, 0, none⟩ (.bool b)).putObj (N + 5) (.deferred none)) ∧
    ((W.setCell ⟨N + 1, 0, none⟩ (.bool b)).putObj (N + 5) (.deferred none)).heap[N + 1]? = some (.cells #[.bool b] 4 (0, 0)) := by
  obtain ⟨g1, g2⟩ := h.close hZN hN
  obtain ⟨Z', h1, h2⟩ := h.dev
  have hs := h.size
  have o : ∀ k, k ≠ N + 1 → k ≠ N + 5 → ((W.setCell ⟨N + 1, 0, none⟩ (.bool b)).putObj (N + 5) (.deferred none)).heap[k]? = W.heap[k]? := fun k hk hk2 => (World.putObj_heap_other hk2).trans (heap_setCell_other W ⟨N + 1, 0, none⟩ k _ hk)
  have hsz : ((W.setCell ⟨N + 1, 0, none⟩ (.bool b)).putObj (N + 5) (.deferred none)).heap.size = W.heap.size := by rw [World.putObj_size]; simp
  generalize hV : ((W.setCell ⟨N + 1, 0, none⟩ (.bool b)).putObj (N + 5) (.deferred none)) = V at o hsz ⊢
  have hd : DevAt V Z' d m := h1.stays (fun k hk => o k (fun e => ?_) (fun e => ?_)) (by omega)
  · have ht : Turn Z w V := ⟨by rw [← hV]; exact g2.os, by rw [← hV]; exact g2.tape, by rw [← hV]; exact g2.output, by omega, fun k hk hz => (o k (by omega) (by omega)).trans (g2.block k hk hz)⟩
    refine ⟨?_, ht, ?_⟩
    · obtain ⟨ok, vo, vb, vl, hl⟩ := hd
      refine ⟨ok, vo, vb, vl, hl.widen (fun k hk => ?_) (fun k hk => ?_)⟩
      · have := hl.zlt k hk
        rcases h2 k hk with hk2 | hk2
        · exact .inl hk2
        · exact .inr ⟨by omega, this⟩
      · rcases hk with hk | hk
        · have := hZN k hk; omega
        · exact hk.2
    · rw [← hV, World.putObj_heap_other (by omega)]
      simpa using heap_setCell_same W (N + 1) 0 _ _ (.bool b) h.pr
  · rcases h2 k hk with hk2 | hk2
    · have := hZN k hk2; omega
    · omega
  · rcases h2 k hk with hk2 | hk2
    · have := hZN k hk2; omega
    · omega

theorem sl_putObj {w : World} {k : IntKind} {v : Value} {ns : List Nat} (h : SlI w k v ns) {l : Nat} {r : Loop} (hl : w.heap[l]? = some (.loop r)) (o : Obj) : SlI (w.putObj l o) k v ns := by
  refine h.same fun a ha => ?_
  have hne : a.block ≠ l := fun e => ha (by unfold World.cell?; rw [e, hl])
  exact World.cell?_of_block (World.putObj_heap_other hne)

/-- What 'write' comes to. -/
def WriteS (w : World) (Z : Nat → Prop) (d : Nat) (r : Dev × Bool) (e : Ending) (w' : World) : Prop := e = .returned (.bool r.2) ∧ DevAt w' (More Z w w') d r.1 ∧ Turn Z w w' ∧ PickOk r.1

set_option maxHeartbeats 8000000 in
set_option maxRecDepth 100000 in
theorem write_any (w : World) (Z : Nat → Prop) (J d from_ end_ at_ next : Nat) (torn : Bool) (m : Dev) (text : List Nat) (hj : JBox w J d from_ end_ at_ next torn) (hd : DevAt w Z d m) (hpk : PickOk m) (hzj : ¬ Z J) (hzn : ¬ Z 0) (hN : Nib w)
    (h8 : ∀ x ∈ text, x < 256) (hlen : text.length ≤ 1000000) (hnext : next < 9223372036854775808) (hat : at_ ≤ 1000000) (hws : m.ws + 2000000 < 4611686018427387904) (hfs : m.fs + 1 < 4611686018427387904) :
    Calls Tryd.prog 42 #[.pointer (some ⟨J, 0, none⟩), .string (strN text)] w (WriteS w Z d (appD next text at_ m)) := by
  have HZlt := Lib.hid hd.lt
  refine (callsIn_wide (n := 0)).1 ?_
  refine callsIn_of_wp_marks Tryd.func42 rfl trivial ?_ rfl
  simp only [Tryd.ntmps42, List.size_toArray, List.length_cons, List.length_nil, Nat.reduceAdd, Nat.reduceSub, Array.replicate_succ, Array.replicate_zero, List.push_toArray, List.append_toArray, List.nil_append, List.cons_append]
  have HJ := Lib.hid (show ∀ u : World, (∀ k, k < w.heap.size → u.heap[k]? = w.heap[k]?) → JBox u J d from_ end_ at_ next torn from fun u hu => (hu J hj.lt).trans hj)
  have hA : Below w.heap.size w ((w.alloc (.cells #[.pointer (some ⟨J, 0, none⟩)] 29)).alloc (.cells #[.bool false] 4)) := ((Below.refl _ w).alloc (Nat.le_refl _) _).alloc (by simp) _
  have hA0 : ((w.alloc (.cells #[.pointer (some ⟨J, 0, none⟩)] 29)).alloc (.cells #[.bool false] 4)).heap[w.heap.size]? = _ := sector.alloc2_fst _ _ _
  have hA1 : ((w.alloc (.cells #[.pointer (some ⟨J, 0, none⟩)] 29)).alloc (.cells #[.bool false] 4)).heap[w.heap.size + 1]? = _ := sector.alloc2_snd _ _ _
  have hAs : ((w.alloc (.cells #[.pointer (some ⟨J, 0, none⟩)] 29)).alloc (.cells #[.bool false] 4)).heap.size = w.heap.size + 2 := by simp
  gi_upto_region 1 with fail
  generalize ((w.alloc (.cells #[.pointer (some ⟨J, 0, none⟩)] 29)).alloc (.cells #[.bool false] 4)) = W1 at hA hA0 hA1 hAs ⊢
  obtain ⟨N, hN⟩ : ∃ N, w.heap.size = N := ⟨_, rfl⟩
  rw [hN] at hA hA0 hA1 hAs ⊢
  have HN' := Lib.hid hN
  obtain ⟨j0, j1, j2, j3, j4, j5⟩ := (HJ.out W1 (by rw [hN]; exact hA.block)).cells
  clear hN
  have q0 : W1.cell? ⟨N, 0, none⟩ = some (.pointer (some ⟨J, 0, none⟩)) := box_cell hA0
  have hB := hA.alloc (by omega) (.cells #[.int .i64 (at_ : Int)] 3)
  have hB2 : (W1.alloc (.cells #[.int .i64 (at_ : Int)] 3)).heap[W1.heap.size]? = _ := alloc_at W1 (.cells #[.int .i64 (at_ : Int)] 3)
  have hB0 : (W1.alloc (.cells #[.int .i64 (at_ : Int)] 3)).heap[N]? = _ := (heap_alloc_old W1 _ (by omega)).trans hA0
  have hB1 : (W1.alloc (.cells #[.int .i64 (at_ : Int)] 3)).heap[N + 1]? = _ := (heap_alloc_old W1 _ (by omega)).trans hA1
  have hBs : (W1.alloc (.cells #[.int .i64 (at_ : Int)] 3)).heap.size = N + 3 := by rw [World.size_alloc, hAs]
  rw [hAs] at hB2
  obtain ⟨i0, i1, i2, i3, i4, i5⟩ := (HJ.out _ (by rw [HN'.out]; exact hB.block)).cells
  have p0 := box_cell hB0
  gi_wp2
  generalize hW2 : (W1.alloc (.cells #[.int .i64 (at_ : Int)] 3)) = W2 at hB hB0 hB1 hB2 hBs i0 i1 i2 i3 i4 i5 p0 ⊢
  refine ⟨trivial, rfl, ?_⟩
  refine (callsIn_wide.2 (laid_any next (strN text) W2)).mono ?_
  rintro e w' ⟨rfl, rfl⟩
  rw [hBs]
  have hC := (hB.alloc (by omega) (.cells #[.int .i64 (next : Int)] 2)).alloc (by simp; omega) (.cells #[.string (strN text)] 9)
  have hC3 := sector.alloc2_fst W2 (.cells #[.int .i64 (next : Int)] 2) (.cells #[.string (strN text)] 9)
  have hC4 := sector.alloc2_snd W2 (.cells #[.int .i64 (next : Int)] 2) (.cells #[.string (strN text)] 9)
  have old : ∀ k, k < N + 3 → ((W2.alloc (.cells #[.int .i64 (next : Int)] 2)).alloc (.cells #[.string (strN text)] 9)).heap[k]? = W2.heap[k]? := fun k hk => (heap_alloc_old _ _ (by simp; omega)).trans (heap_alloc_old _ _ (by omega))
  have hC0 := (old N (by omega)).trans hB0
  have hC1 := (old (N + 1) (by omega)).trans hB1
  have hC2 := (old (N + 2) (by omega)).trans hB2
  have hCs : ((W2.alloc (.cells #[.int .i64 (next : Int)] 2)).alloc (.cells #[.string (strN text)] 9)).heap.size = N + 5 := by simp [hBs]
  rw [hBs] at hC3 hC4
  clear hA hA0 hA1 hAs hB hB0 hB1 hB2 hBs old j0 j1 j2 j3 j4 j5 i0 i1 i2 i3 i4 i5 p0 q0 hW2
  gi_wp2
  generalize ((W2.alloc (.cells #[.int .i64 (next : Int)] 2)).alloc (.cells #[.string (strN text)] 9)) = W0 at hC hC0 hC1 hC2 hC3 hC4 hCs ⊢
  have hZN : ∀ k, Z k → k < N := fun k hk => by have := HZlt.out k hk; rw [HN'.out] at this; exact this
  obtain ⟨T, hT⟩ : ∃ T, appD next text at_ m = T := ⟨_, rfl⟩
  rw [hT]
  refine range_stmtX (n := 0) (gf := 67) (lb := #[.pointer (some ⟨N + 3, 0, none⟩), .pointer (some ⟨N + 3 + 1, 0, none⟩)])
    (I := fun W => ∃ mi, WB N w Z J d at_ (need text.length) mi W ∧ (fDev mi, decide (fErr mi = 0)) = T ∧ mi.fs = m.fs) (X := fun c W => c = .ret ∧ ∃ i mi, WB N w Z J d at_ i mi W ∧ T = (mi, false))
    rfl (enters_of Tryd.func67 (by kernel_rfl) rfl) ?hit ?hdone ?hstop
  case hit =>
    intro fn rec hrec
    simp only [hCs] at hrec ⊢
    refine (laid1_any (N + 5 + 1) (N + 3) (N + 3 + 1) next text
      (I := fun i W => (∃ mi, WB N w Z J d at_ i mi W ∧ appGo next text at_ (need text.length - i) i mi = T ∧ mi.ws ≤ m.ws + i ∧ mi.fs = m.fs) ∧ W.heap[N + 3]? = some (.cells #[.int .i64 (next : Int)] 2 (0, 0)) ∧ W.heap[N + 3 + 1]? = some (.cells #[.string (strN (text.drop (offP i)))] 9 (0, 0)) ∧ Book W (N + 5) (rec .ready none))
      (X := fun _ W => ∃ c, (c = .ret ∧ ∃ i mi, WB N w Z J d at_ i mi W ∧ T = (mi, false)) ∧ Book W (N + 5) (rec .done (some c)))
      hnext h8 hlen (by omega) ?nib ?box ?yield _ ?start).mono ?post
    case nib =>
      rintro i W ⟨⟨mi, hwb, _⟩, _⟩ q hq
      have hlt : 0 < N := by have := cell_lt (hN q hq); simp only at this; rw [HN'.out] at this; exact this
      exact (World.cell?_of_block (a := ⟨0, q, none⟩) (hwb.block _ hlt hzn)).trans (hN q hq)
    case box => exact fun i W h => ⟨h.2.1, h.2.2.1⟩
    case start =>
      have b1 : Below W0.heap.size W0 ((W0.alloc (.deferred (some []))).alloc (.loop (rec .ready none))) := ((Below.refl _ W0).alloc (Nat.le_refl _) _).alloc (by simp) _
      have b2 : Below N w ((W0.alloc (.deferred (some []))).alloc (.loop (rec .ready none))) := hC.trans (b1.mono (by omega))
      have o : ∀ k, k < N + 5 → ((W0.alloc (.deferred (some []))).alloc (.loop (rec .ready none))).heap[k]? = W0.heap[k]? := fun k hk => b1.block k (by omega)
      refine ⟨⟨m, ⟨b2.os, b2.tape, b2.output, by simp [hCs], fun k hk _ => b2.block k hk, ⟨Z, hd.stays (fun k hk => b2.block k (hZN k hk)) (by have := b2.size; omega), fun k hk => .inl hk⟩, (o _ (by omega)).trans hC0, (o _ (by omega)).trans hC1, (o _ (by omega)).trans hC2, hpk⟩, by rw [Nat.sub_zero]; exact hT, Nat.le_refl _, rfl⟩, (o _ (by omega)).trans hC3, (o _ (by omega)).trans hC4, ?_, ?_⟩
      · have := World.alloc_heap_new (W0.alloc (.deferred (some []))) (.loop (rec .ready none))
        rw [World.size_alloc, hCs] at this
        exact this
      · simp only [alloc_heap, Array.getElem?_push, Array.size_push, hCs]; simp
    case post =>
      rintro e W ⟨hv, (⟨⟨mi, h1, h2, h3, h4⟩, h5, h6, h7⟩ | ⟨i, hi, c, h1, h2⟩)⟩
      · refine ⟨hv, .inl ⟨⟨mi, h1, ?_, h4⟩, h7⟩⟩
        rw [Nat.sub_self] at h2
        exact h2
      · exact ⟨hv, .inr ⟨c, h1, h2⟩⟩
    case yield =>
      rintro i Wy W v hi ⟨⟨mi, hwb, hgo, hws2, hfs2⟩, hb3, hb4, hbk⟩ htu hbr ho
      have hwb1 := hwb.turn hZN htu (fun k hk => by omega)
      have hb31 : W.heap[N + 3]? = _ := (htu.block _ (Array.getElem?_eq_some_iff.1 hb3).1 (by omega)).trans hb3
      have hbk1 : Book W (N + 5) (rec .ready none) := ⟨(htu.block _ (Array.getElem?_eq_some_iff.1 hbk.1).1 (by omega)).trans hbk.1, (htu.block _ (Array.getElem?_eq_some_iff.1 hbk.2).1 (by omega)).trans hbk.2⟩
      refine yield_roundX hrec (Rt := fun W' => (∃ mi, WB N w Z J d at_ (i + 1) mi W' ∧ appGo next text at_ (need text.length - (i + 1)) (i + 1) mi = T ∧ mi.ws ≤ m.ws + (i + 1) ∧ mi.fs = m.fs) ∧ W'.heap[N + 3]? = some (.cells #[.int .i64 (next : Int)] 2 (0, 0)) ∧ W'.heap[N + 3 + 1]? = some (.cells #[.string (strN (text.drop (offP (i + 1))))] 9 (0, 0)) ∧ Book W' (N + 5) (rec .ready none))
        (Rx := fun c W' => (c = .ret ∧ ∃ i mi, WB N w Z J d at_ i mi W' ∧ T = (mi, false)) ∧ Book W' (N + 5) (rec .done (some c))) hbk1 rfl ?_ |>.mono ?_
      · obtain ⟨g, cap, rfl⟩ := sector.own_form ho 64 (pieceB_len ..) (by decide)
        have hgW := (World.ownsRow.lt ho g rfl).1
        obtain ⟨curg, hcg⟩ := sector.own_type ho (g := g) rfl
        have hgl := (Array.getElem?_eq_some_iff.1 hcg).1
        clear hcg
        have HWB := Lib.hid hwb1; have HB3 := Lib.hid hb31; have HBr := Lib.hid hbr; have HBk := Lib.hid hbk1; have HGo := Lib.hid hgo; have HWs := Lib.hid hws2; have HFs := Lib.hid hfs2; have HRd := Lib.hid ho.read
        have HI := Lib.hid hi; have HT := Lib.hid hT; have HZN := Lib.hid hZN; 
        obtain ⟨Z', hdy, hz'⟩ := hwb.dev
        have hnz : ∀ k, N ≤ k → k < N + 7 → ¬ Z' k := fun k h1 h2 h3 => by
          rcases hz' k h3 with h4 | h4
          · have := hZN k h4; omega
          · omega
        have HDW : Hid (DevAt W Z' d mi) := Lib.hid (hdy.stays (fun k hk => htu.block k (hdy.lt k hk) (fun e => hnz k (by omega) (by omega) hk)) htu.size)
        have hgz : ¬ Z' g := fun h => by have := hdy.lt g h; omega
        have HGz := Lib.hid hgz; have HNz := Lib.hid hnz; have HZ' := Lib.hid hz'
        have HWy := Lib.hid hwb.size
        have HZj := Lib.hid hzj
        have HJl := Lib.hid (show J < N by have := hj.lt; rw [HN'.out] at this; exact this)
        have HWsm := Lib.hid hws
        have HJb := Lib.hid hj
        clear hwb hgo hws2 hfs2 hb3 hb4 hbk htu hbr ho hwb1 hb31 hbk1 hdy hz' hnz hgz hrec hC hC0 hC1 hC2 hC3 hC4 hCs hT hZN
        gi_wp2
        have hlt6 := (Array.getElem?_eq_some_iff.1 HBk.out.1).1
        refine ⟨HBk.out.1, ?_⟩
        have htq : Turn (fun k => k = N + 5 + 1) W (W.putObj (N + 5 + 1) (.loop (rec .busy none))) := ⟨rfl, rfl, rfl, by rw [World.putObj_size]; exact Nat.le_refl _, fun k _ hk => World.putObj_heap_other hk⟩
        have hwb3 := HWB.out.turn HZN.out htq (fun k hk => by omega)
        have hl3 : (W.putObj (N + 5 + 1) (.loop (rec .busy none))).heap[N + 5 + 1]? = some (.loop (rec .busy none)) := World.putObj_heap_same hlt6
        have o3 : ∀ k, k ≠ N + 5 + 1 → (W.putObj (N + 5 + 1) (.loop (rec .busy none))).heap[k]? = W.heap[k]? := fun k hk => World.putObj_heap_other hk
        have hd3 := (o3 (N + 5) (by omega)).trans HBk.out.2
        have hn3 := (o3 (N + 3) (by omega)).trans HB3.out
        have hr3 := (o3 (N + 3 + 1) (by omega)).trans HBr.out
        have hrd3 := sl_putObj HRd.out HBk.out.1 (.loop (rec .busy none))
        have hgl3 : g < (W.putObj (N + 5 + 1) (.loop (rec .busy none))).heap.size := by rw [World.putObj_size]; exact hgl
        have hdv3 : DevAt (W.putObj (N + 5 + 1) (.loop (rec .busy none))) Z' d mi := HDW.out.stays (fun k hk => o3 k (fun e => HNz.out k (by omega) (by omega) hk)) (by rw [World.putObj_size]; exact Nat.le_refl _)
        generalize W.putObj (N + 5 + 1) (.loop (rec .busy none)) = W3 at hdv3 hwb3 hl3 hd3 hn3 hr3 hrd3 hgl3 ⊢
        have hdq : Turn (fun _ => False) W3 W3.drew := ⟨rfl, rfl, rfl, Nat.le_refl _, fun _ _ _ => rfl⟩
        have HWBd := Lib.hid (hwb3.turn HZN.out hdq (fun k hk => hk.elim))
        have p0 := box_cell HWBd.out.pj
        have j0 := (HWBd.out.jb HJb.out HJl.out HZj.out).cells.1
        have k0 := box_cell HWBd.out.pk
        have hN7 := HWBd.out.size
        have hnz := HNz.out
        have hdv : DevAt W3.drew Z' d mi := hdv3.stays (fun _ _ => rfl) (Nat.le_refl _)
        have HKp : Hid (∀ w8, Turn Z' W3.drew w8 → w8.heap[N + 5 + 1]? = some (.loop (rec .busy none)) ∧ w8.heap[N + 5]? = some (.deferred (some [])) ∧ w8.heap[N + 3]? = some (.cells #[.int .i64 (next : Int)] 2 (0, 0)) ∧ w8.heap[N + 3 + 1]? = some (.cells #[.string (strN (text.drop (offP (i + 1))))] 9 (0, 0))) := Lib.hid fun w8 ht => by
          have ht' : ∀ k, N ≤ k → k < N + 7 → w8.heap[k]? = W3.heap[k]? := fun k h1 h2 => ht.block k (by omega) (hnz k h1 h2)
          exact ⟨(ht' _ (by omega) (by omega)).trans hl3, (ht' _ (by omega) (by omega)).trans hd3, (ht' _ (by omega) (by omega)).trans hn3, (ht' _ (by omega) (by omega)).trans hr3⟩
        have hby : Byt W3.drew (.slice (some ⟨g, 0, none⟩) 64 cap) (pieceB next text i) := ⟨hrd3, pieceB_lt next text i h8, fun b off n c e h0 => by cases e; exact hgl3, fun n c e => by cases e⟩
        have hgz := HGz.out
        have hwr := sector.Write_all W3.drew Z' d mi hdv HWBd.out.pick ((at_ + i : Nat) : Int) _ _ hby (by have := HWs.out; have := HWsm.out; have := HI.out; have := need_le text.length; omega) (fun b off n c e h0 => by cases e; exact hgz)
        rw [pieceB_len] at hwr
        have HWr := Lib.hid hwr
        have HPk := Lib.hid (sector.wDev_more mi ((at_ + i : Nat) : Int) (pieceB next text i) HWBd.out.pick).1
        have HMo := Lib.hid (sector.wDev_more mi ((at_ + i : Nat) : Int) (pieceB next text i) HWBd.out.pick).2
        obtain ⟨zz, hzz⟩ : ∃ zz, at_ + i = zz := ⟨_, rfl⟩
        have HZz := Lib.hid hzz
        rw [hzz] at k0 HWr HPk HMo
        have HZb := Lib.hid (show zz ≤ 3000000 by have := HI.out; have := need_le text.length; omega)
        clear hdq hwb3 hdv hdv3 hnz hby hgz hwr hl3 hd3 hn3 hr3 hrd3 hgl3 hN7 hzz htq o3
        gi_wp2
--W4
        refine wpIn_calm ?_
        refine wpIn_region_held (S := fun u => u.cell? ⟨N, 0, none⟩ = some (.pointer (some ⟨J, 0, none⟩)) ∧ u.cell? ⟨J, 0, none⟩ = some (.pointer (some ⟨d, 0, none⟩)) ∧ u.cell? ⟨N + 2, 0, none⟩ = some (.int .i64 (zz : Int))) (by kernel_rfl) (by kernel_rfl) (calm_in _) (⟨p0, j0, k0⟩) (fun hHeld => ?_)
        refine wpAnyH_take (i := 0) (oi := { dst := some 18, op := Op.load 29 (Operand.tmp 2), type := 29, pos := "journal.go:63", after := #[], guard := none }) (v := ?_) rfl (by kernel_rfl) (by kernel_rfl) (by kernel_rfl) (fun _ _ _ h => h) (Or.inl ⟨by rfl, ?_⟩) hHeld ?_
        rotate_left 1
        · intro W hSw
          (try dsimp only at hSw)
          go_simp
          try with_reducible rfl
        try simp only [Act.put, List.setIfInBounds_toArray, List.set_cons_zero, List.set_cons_succ]
        refine wpAnyH_take (i := 1) (oi := { dst := some 19, op := Op.nilCheck (Operand.tmp 18), type := 0, pos := "journal.go:63", after := #[{ on := 0, ground := Ground.data }], guard := none }) (v := ?_) rfl (by kernel_rfl) (by kernel_rfl) (by kernel_rfl) (fun _ _ _ h => h) (Or.inl ⟨by rfl, ?_⟩) hHeld ?_
        rotate_left 1
        · intro W hSw
          (try dsimp only at hSw)
          go_simp
          try with_reducible rfl
        try simp only [Act.put, List.setIfInBounds_toArray, List.set_cons_zero, List.set_cons_succ]
        refine wpAnyH_take (i := 2) (oi := { dst := some 20, op := Op.fieldAddr 58 (Operand.tmp 19) 0, type := 0, pos := "journal.go:63", after := #[{ on := 1, ground := Ground.data }], guard := none }) (v := ?_) rfl (by kernel_rfl) (by kernel_rfl) (by kernel_rfl) (fun _ _ _ h => h) (Or.inl ⟨by rfl, ?_⟩) hHeld ?_
        rotate_left 1
        · intro W hSw
          (try dsimp only at hSw)
          go_simp
          try with_reducible rfl
        try simp only [Act.put, List.setIfInBounds_toArray, List.set_cons_zero, List.set_cons_succ]
        refine wpAnyH_take (i := 3) (oi := { dst := some 21, op := Op.load 24 (Operand.tmp 20), type := 24, pos := "journal.go:63", after := #[{ on := 2, ground := Ground.data }], guard := none }) (v := ?_) rfl (by kernel_rfl) (by kernel_rfl) (by kernel_rfl) (fun _ _ _ h => h) (Or.inl ⟨by rfl, ?_⟩) hHeld ?_
        rotate_left 1
        · intro W hSw
          (try dsimp only at hSw)
          go_simp
          try with_reducible rfl
        try simp only [Act.put, List.setIfInBounds_toArray, List.set_cons_zero, List.set_cons_succ]
        refine wpAnyH_take (i := 4) (oi := { dst := some 22, op := Op.load 3 (Operand.tmp 5), type := 3, pos := "journal.go:63", after := #[], guard := none }) (v := ?_) rfl (by kernel_rfl) (by kernel_rfl) (by kernel_rfl) (fun _ _ _ h => h) (Or.inl ⟨by rfl, ?_⟩) hHeld ?_
        rotate_left 1
        · intro W hSw
          (try dsimp only at hSw)
          go_simp
          try with_reducible rfl
        try simp only [Act.put, List.setIfInBounds_toArray, List.set_cons_zero, List.set_cons_succ]
        refine wpAnyH_take (i := 5) (oi := { dst := some 23, op := Op.move (Operand.tmp 6), type := 22, pos := "journal.go:63", after := #[], guard := none }) (v := ?_) rfl (by kernel_rfl) (by kernel_rfl) (by kernel_rfl) (fun _ _ _ h => h) (Or.inl ⟨by rfl, ?_⟩) hHeld ?_
        rotate_left 1
        · intro W hSw
          (try dsimp only at hSw)
          go_simp
          try with_reducible rfl
        try simp only [Act.put, List.setIfInBounds_toArray, List.set_cons_zero, List.set_cons_succ]
        refine wpAnyH_ready (rs := [6]) (by kernel_rfl) (by simp) ?_
        refine AllReadyH.cons (o := { dst := some 24, op := Op.call { callee := Callee.value (Operand.func 57), args := #[Operand.tmp 21, Operand.tmp 22, Operand.tmp 23], argTypes := #[24, 3, 22] }, type := 31, pos := "journal.go:63", after := #[{ on := 3, ground := Ground.data }, { on := 4, ground := Ground.data }, { on := 5, ground := Ground.data }], guard := none }) rfl (fun K hK => ?_) ?_
        · go_simp
          refine HWr.out.mono ?_
          rintro e w8 ⟨rfl, hd8, ht8⟩
          have HB8 := Lib.hid (HWBd.out.does HZN.out HZ'.out hd8 ht8 HPk.out)
          have HBk8 := Lib.hid (HKp.out w8 ht8)
          have hj8 := (HB8.out.jb HJb.out HJl.out HZj.out).cells.1
          have hp8 := box_cell HB8.out.pj
          have hk8 := box_cell HB8.out.pk
          rw [HZz.out] at hk8
          clear hd8 ht8
          try dsimp only
          refine hK.out _ _ (⟨hp8, hj8, hk8⟩) (fun hHeld => ?_)
          clear hK K
          try simp only [Act.put, List.setIfInBounds_toArray, List.set_cons_zero, List.set_cons_succ]
          refine wpAnyH_take (i := 7) (oi := { dst := some 25, op := Op.binOp BinOp.neq 31 (Operand.tmp 24) (Operand.const (Value.int IntKind.i64 0)) 31, type := 4, pos := "journal.go:63", after := #[{ on := 6, ground := Ground.data }], guard := none }) (v := ?_) rfl (by kernel_rfl) (by kernel_rfl) (by kernel_rfl) (fun _ _ _ h => h) (Or.inl ⟨by rfl, ?_⟩) hHeld ?_
          rotate_left 1
          · intro W hSw
            (try dsimp only at hSw)
            go_simp
            try with_reducible rfl
          try simp only [Act.put, List.setIfInBounds_toArray, List.set_cons_zero, List.set_cons_succ]
          refine wpAnyH_done (by kernel_rfl) ?_ _
          refine calm_normal ?_
          have hstep : appGo next text at_ (need text.length - i) i mi = if wErr mi (zz : Int) 64 = 0 then appGo next text at_ (need text.length - (i + 1)) (i + 1) (wDev mi (zz : Int) (pieceB next text i)) else (wDev mi (zz : Int) (pieceB next text i), false) := by
            have := HI.out
            rw [show need text.length - i = (need text.length - (i + 1)) + 1 by omega, appGo, HZz.out]
          obtain ⟨b1, b2, b3, b4⟩ := HBk8.out
          have r1 := box_cell HB8.out.pr
          have fr1 := box_frozen HB8.out.pr
          have fk1 := box_frozen HB8.out.pk
          have HSt := Lib.hid (hstep.symm.trans HGo.out)
          clear hHeld p0 j0 k0 hj8 hp8 hstep
          by_cases hw : wErr mi (zz : Int) 64 = 0
          case neg =>
            have hb : (wErr mi (zz : Int) 64 != 0) = true := by rw [bne_iff_ne]; exact hw
            rw [hb]
            have HT2 : Hid (T = (wDev mi (zz : Int) (pieceB next text i), false)) := Lib.hid (by have := HSt.out; rw [if_neg hw] at this; exact this.symm)
            clear hw hb hk8
            gi_wp2
            have h9 := HB8.out.setR HZN.out
            have o9 : ∀ k, k ≠ N + 1 → (w8.setCell ⟨N + 1, 0, none⟩ (.bool false)).heap[k]? = w8.heap[k]? := fun k hk => heap_setCell_other w8 ⟨N + 1, 0, none⟩ k _ hk
            have l9 := (o9 _ (by omega)).trans b1
            have d9 := (o9 _ (by omega)).trans b2
            refine ⟨l9, ⟨rfl, i, _, h9.turn HZN.out (Q := fun k => k = N + 5 + 1) ⟨rfl, rfl, rfl, by rw [World.putObj_size]; exact Nat.le_refl _, fun k _ hk => World.putObj_heap_other hk⟩ (fun k hk => by omega), HT2.out⟩, World.putObj_heap_same (Array.getElem?_eq_some_iff.1 l9).1, (World.putObj_heap_other (by omega)).trans d9⟩
          have hb : (wErr mi (zz : Int) 64 != 0) = false := by rw [hw]; rfl
          rw [hb]
          have HT2 : Hid (appGo next text at_ (need text.length - (i + 1)) (i + 1) (wDev mi (zz : Int) (pieceB next text i)) = T) := Lib.hid (by have := HSt.out; rw [if_pos hw] at this; exact this)
          have hzb := HZb.out
          have e1 : True → wrap64 ((zz : Int) + 1) = (zz : Int) + 1 := fun _ => by unfold wrap64; omega
          have e2 : True → IntKind.i64.wrap ((zz : Int) + 1) = (zz : Int) + 1 := fun _ => by rw [IntKind.wrap_i64]; omega
          have HK9 : Hid (((at_ + (i + 1) : Nat) : Int) = (zz : Int) + 1) := Lib.hid (by have := HZz.out; omega)
          clear hw hb hzb r1 fr1
          gi_wp2
          have h9 := HB8.out.setK HZN.out
          rw [HK9.out] at h9
          have o9 : ∀ k, k ≠ N + 2 → (w8.setCell ⟨N + 2, 0, none⟩ (.int .i64 ((zz : Int) + 1))).heap[k]? = w8.heap[k]? := fun k hk => heap_setCell_other w8 ⟨N + 2, 0, none⟩ k _ hk
          have l9 := (o9 _ (by omega)).trans b1
          have d9 := (o9 _ (by omega)).trans b2
          have n9 := (o9 _ (by omega)).trans b3
          have r9 := (o9 _ (by omega)).trans b4
          have q9 : ∀ k, k ≠ N + 5 + 1 → ((w8.setCell ⟨N + 2, 0, none⟩ (.int .i64 ((zz : Int) + 1))).putObj (N + 5 + 1) (.loop (rec .ready none))).heap[k]? = (w8.setCell ⟨N + 2, 0, none⟩ (.int .i64 ((zz : Int) + 1))).heap[k]? := fun k hk => World.putObj_heap_other hk
          exact ⟨l9, ⟨_, h9.turn HZN.out (Q := fun k => k = N + 5 + 1) ⟨rfl, rfl, rfl, by rw [World.putObj_size]; exact Nat.le_refl _, fun k _ hk => q9 k hk⟩ (fun k hk => by omega), HT2.out, by have := HMo.out.2.1; have := HWs.out; omega, (sector.wDev_fs mi _ _).trans HFs.out⟩, (q9 _ (by omega)).trans n9, (q9 _ (by omega)).trans r9, World.putObj_heap_same (Array.getElem?_eq_some_iff.1 l9).1, (q9 _ (by omega)).trans d9⟩
        exact AllReadyH.nil
--W4E
      · rintro e W' (⟨he, h⟩ | ⟨he, c, h⟩)
        · exact .inl ⟨he, h⟩
        · exact .inr ⟨he, c, h⟩
  case hdone =>
    rintro W r r' ⟨mi, hwb, hTd, hfs'⟩ hb
    simp only [hCs]
    simp only [hCs] at hb
    have hk : (W.putObj (N + 5 + 1) (.loop r')).heap[N + 5]? = some (.deferred (some [])) := (World.putObj_heap_other (by omega)).trans hb.2
    have htq : Turn (fun k => k = N + 5 + 1) W (W.putObj (N + 5 + 1) (.loop r')) := ⟨rfl, rfl, rfl, by rw [World.putObj_size]; exact Nat.le_refl _, fun k _ hk => World.putObj_heap_other hk⟩
    have hwb2 := hwb.turn hZN htq (fun k hk => by omega)
    clear hwb hb htq
    generalize W.putObj (N + 5 + 1) (.loop r') = W3 at hk hwb2 ⊢
    obtain ⟨Z', h1, h2⟩ := hwb2.dev
    have HFl := Lib.hid (sector.Flush_all W3 Z' d mi h1 (by rw [hfs']; exact hfs))
    have HZ' := Lib.hid h2
    have p0 := box_cell hwb2.pj
    have j0 := (hwb2.jb (HJ.out w (fun _ _ => rfl)) (by have := (HJ.out w (fun _ _ => rfl)).lt; rw [HN'.out] at this; exact this) hzj).cells.1
    have HWB3 := Lib.hid hwb2
    have HD3 := Lib.hid hk
    have HTd := Lib.hid hTd
    have HZN := Lib.hid hZN
    clear hk hwb2 hTd hZN hC hC0 hC1 hC2 hC3 hC4 hCs h1 h2 hfs'
    gi_wp2
    refine ⟨trivial, rfl, ?_⟩
    refine (callsIn_wide.2 HFl.out).mono ?_
    rintro e w8 ⟨rfl, hd8, ht8⟩
    have HB8 := Lib.hid (HWB3.out.does HZN.out HZ'.out hd8 ht8 (fDev_more mi HWB3.out.pick).1)
    have hnz : ¬ Z' (N + 5) := fun h => by
      rcases HZ'.out _ h with h | h
      · have := HZN.out _ h; omega
      · omega
    have HD8 := Lib.hid ((ht8.block (N + 5) (by have := (Array.getElem?_eq_some_iff.1 HD3.out).1; exact this) hnz).trans HD3.out)
    have r1 := box_cell HB8.out.pr
    have fr1 := box_frozen HB8.out.pr
    clear hd8 ht8 hnz p0 j0
    gi_wp2
    have hd9 : (w8.setCell ⟨N + 1, 0, none⟩ (.bool (fErr mi == 0))).heap[N + 5]? = some (.deferred (some [])) := (heap_setCell_other w8 ⟨N + 1, 0, none⟩ (N + 5) _ (by simp)).trans HD8.out
    obtain ⟨g1, g2, g3⟩ := HB8.out.fin HZN.out HN'.out (fErr mi == 0)
    refine ⟨by simp, .inl ⟨_, _, rfl, run_takeDeferred hd9, ?_⟩⟩
    refine ⟨_, ret1 g3 rfl, ?_, ?_, g2, ?_⟩
    · rw [hT.trans HTd.out.symm]; first | rfl | (simp; done) | (congr 2; simp [beq_eq_decide])
    · rw [hT.trans HTd.out.symm]; exact g1
    · rw [hT.trans HTd.out.symm]; exact HB8.out.pick
  case hstop =>
    rintro W c r r' ⟨rfl, i, mi, hwb, hT9⟩ hb
    simp only [hCs]
    simp only [hCs] at hb
    have hk : (W.putObj (N + 5 + 1) (.loop r')).heap[N + 5]? = some (.deferred (some [])) := (World.putObj_heap_other (by omega)).trans hb.2
    have htq : Turn (fun k => k = N + 5 + 1) W (W.putObj (N + 5 + 1) (.loop r')) := ⟨rfl, rfl, rfl, by rw [World.putObj_size]; exact Nat.le_refl _, fun k _ hk => World.putObj_heap_other hk⟩
    have hwb2 := hwb.turn hZN htq (fun k hk => by omega)
    clear hwb hb htq
    generalize W.putObj (N + 5 + 1) (.loop r') = W3 at hk hwb2 ⊢
    have HWB3 := Lib.hid hwb2
    have HD3 := Lib.hid hk
    have HZN := Lib.hid hZN
    have HT9 := Lib.hid hT9
    clear hk hwb2 hT9 hZN hC hC0 hC1 hC2 hC3 hC4 hCs
    gi_wp2
    have htd : Turn (fun k => k = N + 5) W3 (W3.putObj (N + 5) (.deferred none)) := ⟨rfl, rfl, rfl, by rw [World.putObj_size]; exact Nat.le_refl _, fun k _ hk => World.putObj_heap_other hk⟩
    have h5 := HWB3.out.turn HZN.out htd (fun k hk => by omega)
    refine ⟨by simp, .inl ⟨_, _, rfl, run_takeDeferred HD3.out, ?_⟩⟩
    obtain ⟨g1, g2⟩ := h5.close HZN.out HN'.out
    refine ⟨_, ret1 h5.pr rfl, ?_, ?_, g2, ?_⟩
    · rw [HT9.out]
    · rw [HT9.out]; exact g1
    · rw [HT9.out]; exact h5.pick

end Go.Proofs.YtkhghkklekjdaaaDoor.journal
