/- 'read' of fields: what it takes, and nothing where one can't be taken. -/
import Derived.Test.YtoeklnmmnmmjeaaGreatRows
import Derived.Test.YtoeklnmmnmmjeaaGreatCodeRowR
import Derived.Test.YtoeklnmmnmmjeaaGreatCodeOwnF
import Derived.Test.YtoeklnmmnmmjeaaGreatCodeRPick
import Derived.Test.YtoeklnmmnmmjeaaGreatCodeWrite
import Derived.Shelf.Abstract
namespace Go.Proofs.YtoeklnmmnmmjeaaGreat.code
open Go.RowKit
open Go.Proofs.YtoeklnmmnmmjeaaGreat.kit Go.Proofs.YtoeklnmmnmmjeaaGreat.cm Go.Proofs.YtoeklnmmnmmjeaaGreat.iter
set_option linter.unusedVariables false
attribute [local go_sem] Oper.semAt_some

/-- Fields taken one behind the other by rd. -/
def rA (rd : Int → List Nat → Except Int (Fld × List Nat)) : List Fld → List Int → List Nat → Except Int (List Fld × List Nat)
  | acc, [], bs => .ok (acc, bs)
  | acc, k :: ks, bs => match rd k bs with
    | .error e => .error e
    | .ok (f, r) => rA rd (acc ++ [f]) ks r

/-- Between two rounds of 'read', whatever has been taken. -/
structure RC (N : Nat) (w : World) (kv : Value) (take : Nat) (rb len : Nat) (res : Value) (er : Int) (r : Loop) (W : World) : Prop where
  bel : w.grownBy W (some rb)
  size : N + 9 ≤ W.heap.size
  bk : Box W N 22 kv
  bt : Box W (N + 1) 185 (.func (.func take) #[.pointer (some ⟨rb, 0, none⟩)] #[])
  bl : Box W (N + 2) 76 res
  be : Box W (N + 3) 32 (.int .i64 er)
  bn : Box W (N + 4) 3 (.int .i64 len)
  bf : Box W (N + 5) 185 (.func (.func 182) #[] #[.pointer (some ⟨N + 1, 0, none⟩), .pointer (some ⟨N, 0, none⟩)])
  bo : Book W (N + 7) r

/-- What a step that turns only block rb, or lays anew, keeps. -/
theorem RC.keep {N : Nat} {w : World} {kv : Value} {take rb len : Nat} {res : Value} {er : Int} {r : Loop} {W W' : World} (h : RC N w kv take rb len res er r W) (hrb : rb < N) (hg : W.grownBy W' (some rb)) : RC N w kv take rb len res er r W' := by
  have hN := h.size
  have k : ∀ j, N ≤ j → j < N + 9 → W'.heap[j]? = W.heap[j]? := fun j h1 h2 => hg.block j (by omega) (by simp; omega)
  exact ⟨Lib.grownBy_trans h.bel hg, Nat.le_trans h.size hg.size, (k _ (by omega) (by omega)).trans h.bk, (k _ (by omega) (by omega)).trans h.bt, (k _ (by omega) (by omega)).trans h.bl, (k _ (by omega) (by omega)).trans h.be, (k _ (by omega) (by omega)).trans h.bn, (k _ (by omega) (by omega)).trans h.bf, (k _ (by omega) (by omega)).trans h.bo.1, (k _ (by omega) (by omega)).trans h.bo.2⟩
theorem RC.turn {N : Nat} {w : World} {kv : Value} {take rb len : Nat} {res : Value} {er : Int} {r : Loop} {W : World} (h : RC N w kv take rb len res er r W) (hN0 : N = w.heap.size) (r' : Loop) : RC N w kv take rb len res er r' (W.putObj (N + 8) (.loop r')) := by
  have hN := h.size
  have k : ∀ j, j ≠ N + 8 → (W.putObj (N + 8) (.loop r')).heap[j]? = W.heap[j]? := fun j hj => World.putObj_heap_other hj
  have hg : w.grownBy (W.putObj (N + 8) (.loop r')) (some rb) := h.bel.andThen (grownBy_putObj' W (N + 8) (.loop r')) (fun j e => .inl (by have h0 : N + 8 = j := (by simpa using e); omega))
  exact ⟨hg, by rw [World.putObj_size]; exact h.size, (k _ (by omega)).trans h.bk, (k _ (by omega)).trans h.bt, (k _ (by omega)).trans h.bl, (k _ (by omega)).trans h.be, (k _ (by omega)).trans h.bn, (k _ (by omega)).trans h.bf, World.putObj_heap_same (by omega), (k _ (by omega)).trans h.bo.2⟩

/-- The rows that were gathered: in the box of 'l', at block N + 6. -/
def Got (N : Nat) (fs : List Fld) (W : World) : Prop := ∃ v, Box W (N + 6) 76 v ∧ OwnF W N v fs

theorem OwnF.keep {W W' : World} {N : Nat} {v : Value} {fs : List Fld} (h : OwnF W N v fs) {rb : Nat} (hrb : rb < N) (hg : W.grownBy W' (some rb)) : OwnF W' N v fs := by
  refine World.ownsRow.kept h hg ?_
  rcases h.2 with ⟨rfl, _⟩ | ⟨g, cap, cur, rfl, hB, hg', _⟩
  · exact .inl rfl
  · exact .inr (by simp [Value.ownBlock]; omega)
theorem OwnF.put {W : World} {N : Nat} {v : Value} {fs : List Fld} (h : OwnF W N v fs) {l : Nat} {o : Obj} (o' : Obj) (hl : W.heap[l]? = some o) (hc : o.isCells = false) : OwnF (W.putObj l o') N v fs := ownsRow_putObj h o' hl hc
theorem OwnF.set {W : World} {N : Nat} {v : Value} {fs : List Fld} (h : OwnF W N v fs) {b : Nat} {t : TypeId} {u u' : Value} (hb : Box W b t u) (ht : t ≠ 86) : OwnF (W.setCell ⟨b, 0, none⟩ u') N v fs := by
  refine World.ownsRow.kept h (grownBy_setCell' W b u') ?_
  rcases h.2 with ⟨rfl, _⟩ | ⟨g, cap, cur, rfl, hB, hg, _⟩
  · exact .inl rfl
  · refine .inr fun e => ?_
    have e' : g = b := by simpa [Value.ownBlock] using e
    subst e'
    have hb' : W.heap[g]? = some (.cells #[u] t (0, 0)) := hb
    rw [hg] at hb'
    simp at hb'
    exact ht hb'.2.symm
theorem Got.keep {W W' : World} {N rb : Nat} {fs : List Fld} (h : Got N fs W) (hrb : rb < N) (hg : W.grownBy W' (some rb)) : Got N fs W' := by
  obtain ⟨v, hv, ho⟩ := h
  exact ⟨v, (hg.block _ (box_lt hv) (by simp; omega)).trans hv, ho.keep hrb hg⟩
theorem Got.turn {W : World} {N : Nat} {fs : List Fld} {r r' : Loop} (h : Got N fs W) (hl : W.heap[N + 8]? = some (.loop r)) : Got N fs (W.putObj (N + 8) (.loop r')) := by
  obtain ⟨v, hv, ho⟩ := h
  exact ⟨v, (World.putObj_heap_other (by omega)).trans hv, ho.put _ hl rfl⟩
theorem Rest.turn {L : Nat} {W : World} {rb N : Nat} {bs : List Nat} (h : Rest L W rb bs) (hL : L ≤ N) (hrb : rb < N) (o : Obj) : Rest L (W.putObj (N + 8) o) rb bs := h.far (grownBy_putObj' W (N + 8) o) (by omega) (by omega)

/-- The invariant of 'read''s loop, and what stands between the taking of a field and its round. -/
structure RI (L N : Nat) (w : World) (kv : Value) (take rb : Nat) (rd : Int → List Nat → Except Int (Fld × List Nat)) (ks : List Int) (R0 : Except Int (List Fld × List Nat)) (r : Loop) (i : Nat) (W : World) : Prop where
  rc : RC N w kv take rb ks.length (.slice none 0 0) 0 r W
  got : ∃ fs rr, Got N fs W ∧ fs.length = i ∧ Rest L W rb rr ∧ rA rd fs (ks.drop i) rr = R0
structure RM (L N : Nat) (w : World) (kv : Value) (take rb : Nat) (rd : Int → List Nat → Except Int (Fld × List Nat)) (ks : List Int) (R0 : Except Int (List Fld × List Nat)) (r : Loop) (i : Nat) (f : Fld) (er : Int) (W : World) : Prop where
  rc : RC N w kv take rb ks.length (.slice none 0 0) 0 r W
  hi : i < ks.length
  got : ∃ fs, Got N fs W ∧ fs.length = i ∧ ((∃ rr, er = 0 ∧ Rest L W rb rr ∧ rA rd (fs ++ [f]) (ks.drop (i + 1)) rr = R0) ∨ (er ≠ 0 ∧ R0 = .error er))

theorem rA_ok {rd : Int → List Nat → Except Int (Fld × List Nat)} {acc : List Fld} {k : Int} {ks : List Int} {bs : List Nat} {f : Fld} {r : List Nat} (h : rd k bs = .ok (f, r)) : rA rd acc (k :: ks) bs = rA rd (acc ++ [f]) ks r := by
  rw [rA, h]
theorem rA_err {rd : Int → List Nat → Except Int (Fld × List Nat)} {acc : List Fld} {k : Int} {ks : List Int} {bs : List Nat} {e : Int} (h : rd k bs = .error e) : rA rd acc (k :: ks) bs = .error e := by
  rw [rA, h]

theorem SlK.old {w W : World} {kv : Value} {ks : List Int} {rb : Nat} (h : SlK w kv ks) (hold : ∀ b off n c, kv = .slice (some ⟨b, off, none⟩) n c → 0 < n → b ≠ rb) (hg : w.grownBy W (some rb)) : SlK W kv ks := by
  obtain ⟨hl, a, cap, rfl, hc⟩ := h
  refine ⟨hl, a, cap, rfl, fun h0 => ?_⟩
  obtain ⟨b, off, rfl, hcell⟩ := hc h0
  refine ⟨b, off, rfl, fun j hj => ?_⟩
  have h1 := hcell j hj
  have hlt : b < w.heap.size := cell_lt (a := ⟨b, off + j, none⟩) (by rw [h1]; simp)
  exact (World.cell?_of_block (a := ⟨b, _, none⟩) (hg.block b hlt (fun e => hold b off _ _ rfl h0 (by simpa using e)))).trans h1

theorem rm_field {L N : Nat} {w : World} {kv : Value} {rb : Nat} {ks : List Int} {R0 : Except Int (List Fld × List Nat)} {r : Loop} (hN0 : N = w.heap.size) (hs : SlK w kv ks) (hold : ∀ b off n c, kv = .slice (some ⟨b, off, none⟩) n c → 0 < n → b ≠ rb) (hL : L ≤ N) (hrb : rb < N)
    (i : Nat) (W : World) (hi : i < ks.length) (h : RI L N w kv 143 rb rField ks R0 r i W) :
    CallsIn Fence.wide 0 Tryz.prog 182 (#[.int .i64 i] ++ #[.pointer (some ⟨N + 1, 0, none⟩), .pointer (some ⟨N, 0, none⟩)]) W fun e W' =>
      ∃ (f : Fld) (er : Int), e = .returned (.tuple #[.agg #[.int .i64 f.kind, .int .i64 f.num, .string f.text, .bool f.is], .int .i64 er]) ∧ RM L N w kv 143 rb rField ks R0 r i f er W' := by
  obtain ⟨fs, rr, hgot, hlen, hrest, hA⟩ := h.got
  have hsz := h.rc.size
  refine (callsIn_wide.2 (pickF_any (L := L) rb (N + 1) N ks kv i hi rr W h.rc.bt h.rc.bk (hs.old hold h.rc.bel) hrest (by omega))).mono ?_
  intro e W' hp
  obtain ⟨f, er, rfl, hg, hr⟩ := hp.any
  have hd : ks.drop i = ks[i] :: ks.drop (i + 1) := List.drop_eq_getElem_cons hi
  refine ⟨f, er, rfl, h.rc.keep hrb hg, hi, fs, hgot.keep hrb hg, hlen, ?_⟩
  rcases hr with ⟨r', hR, h0, hrest'⟩ | ⟨hR, _, h0⟩
  · exact .inl ⟨r', h0, hrest', by rw [← hA, hd, rA_ok hR]⟩
  · exact .inr ⟨h0, by rw [← hA, hd, rA_err hR]⟩

theorem RM.grow {L N : Nat} {w : World} {kv : Value} {take rb : Nat} {rd : Int → List Nat → Except Int (Fld × List Nat)} {ks : List Int} {R0 : Except Int (List Fld × List Nat)} {r : Loop} {i : Nat} {f : Fld} {er : Int} {W W' : World}
    (h : RM L N w kv take rb rd ks R0 r i f er W) (hrb : rb < N) (hb : Below W.heap.size W W') : RM L N w kv take rb rd ks R0 r i f er W' := by
  have hg : W.grownBy W' (some rb) := ⟨hb.os, hb.tape, hb.output, hb.size, fun k hk _ => hb.block k hk⟩
  obtain ⟨fs, hg1, hl, hr⟩ := h.got
  refine ⟨h.rc.keep hrb hg, h.hi, fs, hg1.keep hrb hg, hl, ?_⟩
  rcases hr with ⟨rr, h1, h2, h3⟩ | h2
  · exact .inl ⟨rr, h1, h2.grow hb, h3⟩
  · exact .inr h2
theorem RM.turn {L N : Nat} {w : World} {kv : Value} {take rb : Nat} {rd : Int → List Nat → Except Int (Fld × List Nat)} {ks : List Int} {R0 : Except Int (List Fld × List Nat)} {r : Loop} {i : Nat} {f : Fld} {er : Int} {W : World}
    (h : RM L N w kv take rb rd ks R0 r i f er W) (hN0 : N = w.heap.size) (hrb : rb < N) (hL : L ≤ N) (r' : Loop) : RM L N w kv take rb rd ks R0 r' i f er (W.putObj (N + 8) (.loop r')) := by
  obtain ⟨fs, hg1, hl, hr⟩ := h.got
  refine ⟨h.rc.turn hN0 r', h.hi, fs, hg1.turn h.rc.bo.1, hl, ?_⟩
  rcases hr with ⟨rr, h1, h2, h3⟩ | h2
  · exact .inl ⟨rr, h1, h2.turn hL hrb _, h3⟩
  · exact .inr h2

theorem seven_alloc (w : World) (o0 o1 o2 o3 o4 o5 o6 : Obj) :
    (((((((w.alloc o0).alloc o1).alloc o2).alloc o3).alloc o4).alloc o5).alloc o6).heap.size = w.heap.size + 7 ∧
    (((((((w.alloc o0).alloc o1).alloc o2).alloc o3).alloc o4).alloc o5).alloc o6).heap[w.heap.size]? = some o0 ∧
    (((((((w.alloc o0).alloc o1).alloc o2).alloc o3).alloc o4).alloc o5).alloc o6).heap[w.heap.size + 1]? = some o1 ∧
    (((((((w.alloc o0).alloc o1).alloc o2).alloc o3).alloc o4).alloc o5).alloc o6).heap[w.heap.size + 2]? = some o2 ∧
    (((((((w.alloc o0).alloc o1).alloc o2).alloc o3).alloc o4).alloc o5).alloc o6).heap[w.heap.size + 3]? = some o3 ∧
    (((((((w.alloc o0).alloc o1).alloc o2).alloc o3).alloc o4).alloc o5).alloc o6).heap[w.heap.size + 4]? = some o4 ∧
    (((((((w.alloc o0).alloc o1).alloc o2).alloc o3).alloc o4).alloc o5).alloc o6).heap[w.heap.size + 5]? = some o5 ∧
    (((((((w.alloc o0).alloc o1).alloc o2).alloc o3).alloc o4).alloc o5).alloc o6).heap[w.heap.size + 6]? = some o6 ∧
    Below w.heap.size w (((((((w.alloc o0).alloc o1).alloc o2).alloc o3).alloc o4).alloc o5).alloc o6) := by
  obtain ⟨s0, s1, s2, s3, s4, s5, s6, s7⟩ := six_alloc w o0 o1 o2 o3 o4 o5
  generalize (((((w.alloc o0).alloc o1).alloc o2).alloc o3).alloc o4).alloc o5 = W at s0 s1 s2 s3 s4 s5 s6 s7 ⊢
  have k : ∀ j o, W.heap[j]? = some o → (W.alloc o6).heap[j]? = some o := fun j o h => (Below.heap_alloc W o6 j (Array.getElem?_eq_some_iff.1 h).1).trans h
  refine ⟨by rw [World.size_alloc, s0], k _ _ s1, k _ _ s2, k _ _ s3, k _ _ s4, k _ _ s5, k _ _ s6, ?_, s7.alloc (by omega) _⟩
  have := heap_alloc_last W o6
  rw [s0] at this
  exact this

/-- A field was gathered: the store into the box of 'l'. -/
theorem RC.kept {N : Nat} {w : World} {kv : Value} {take rb len : Nat} {res : Value} {er : Int} {r : Loop} {W W2 : World} (h : RC N w kv take rb len res er r W) (hN0 : N = w.heap.size) {v : Value} (hv : Box W (N + 6) 76 v) (hk : Kept N 86 W W2) (v' : Value) :
    RC N w kv take rb len res er r (W2.setCell ⟨N + 6, 0, none⟩ v') := by
  have hN := h.size
  have kb : ∀ {j t u}, j ≠ N + 6 → t ≠ 86 → Box W j t u → Box (W2.setCell ⟨N + 6, 0, none⟩ v') j t u := fun hj ht hb => (cell_other W2 (N + 6) v' _ hj).trans (hk.box ht hb)
  have ko : ∀ (j : Nat) (o : Obj), j ≠ N + 6 → W.heap[j]? = some o → o.isCells = false → (W2.setCell ⟨N + 6, 0, none⟩ v').heap[j]? = some o := fun j o hj hw hc =>
    (cell_other W2 (N + 6) v' _ hj).trans ((hk.other j (Array.getElem?_eq_some_iff.1 hw).1 (fun cur fz e => by rw [hw] at e; cases e; cases hc)).trans hw)
  have hsz : (W2.setCell ⟨N + 6, 0, none⟩ v').heap.size = W2.heap.size := setCell_size _ _ _
  have hb := (hk.toBelow).setCell (p := ⟨N + 6, 0, none⟩) (by simp) v'
  have hg : w.grownBy (W2.setCell ⟨N + 6, 0, none⟩ v') (some rb) := ⟨hb.os.trans h.bel.os, hb.tape.trans h.bel.tape, hb.output.trans h.bel.output, Nat.le_trans h.bel.size hb.size, fun k hk1 hk2 => (hb.block k (by omega)).trans (h.bel.block k hk1 hk2)⟩
  exact ⟨hg, by rw [hsz]; exact Nat.le_trans h.size hk.size, kb (by omega) (by decide) h.bk, kb (by omega) (by decide) h.bt, kb (by omega) (by decide) h.bl, kb (by omega) (by decide) h.be, kb (by omega) (by decide) h.bn, kb (by omega) (by decide) h.bf, ko _ _ (by omega) h.bo.1 rfl, ko _ _ (by omega) h.bo.2 rfl⟩

theorem Rest.below' {L N : Nat} {W W' : World} {rb : Nat} {bs : List Nat} (h : Rest L W rb bs) (hb : Below N W W') (hL : L ≤ N) (hrb : rb < N) : Rest L W' rb bs := by
  obtain ⟨h8, v, hv, hl, a, cap, rfl, hle, hc⟩ := h
  refine ⟨h8, _, (hb.block rb hrb).trans hv, hl, a, cap, rfl, hle, fun h0 => ?_⟩
  obtain ⟨b, off, rfl, hP, hlt, hcell⟩ := hc h0
  exact ⟨b, off, rfl, hP, Nat.lt_of_lt_of_le hlt hb.size, fun j hj => (hb.cell (p := ⟨b, _, none⟩) (Nat.lt_of_lt_of_le hP.2 hL)).trans (hcell j hj)⟩

/-- The two results are stored: an error. -/
theorem RC.fails {N : Nat} {w : World} {kv : Value} {take rb len : Nat} {r : Loop} {W : World} (h : RC N w kv take rb len (.slice none 0 0) 0 r W) (hN0 : N = w.heap.size) (er : Int) :
    RC N w kv take rb len (.slice none 0 0) er r ((W.setCell ⟨N + 2, 0, none⟩ (.slice none 0 0)).setCell ⟨N + 3, 0, none⟩ (.int .i64 er)) := by
  have hN := h.size
  have k : ∀ j, j ≠ N + 2 → j ≠ N + 3 → ((W.setCell ⟨N + 2, 0, none⟩ (.slice none 0 0)).setCell ⟨N + 3, 0, none⟩ (.int .i64 er)).heap[j]? = W.heap[j]? := fun j h2 h3 => (cell_other _ (N + 3) _ j h3).trans (cell_other W (N + 2) _ j h2)
  have hb : Below N W ((W.setCell ⟨N + 2, 0, none⟩ (.slice none 0 0)).setCell ⟨N + 3, 0, none⟩ (.int .i64 er)) := ((Below.refl _ W).setCell (p := ⟨N + 2, 0, none⟩) (by simp) _).setCell (p := ⟨N + 3, 0, none⟩) (by simp) _
  have hg : w.grownBy ((W.setCell ⟨N + 2, 0, none⟩ (.slice none 0 0)).setCell ⟨N + 3, 0, none⟩ (.int .i64 er)) (some rb) := ⟨hb.os.trans h.bel.os, hb.tape.trans h.bel.tape, hb.output.trans h.bel.output, Nat.le_trans h.bel.size hb.size, fun k hk1 hk2 => (hb.block k (by omega)).trans (h.bel.block k hk1 hk2)⟩
  refine ⟨hg, by rw [setCell_size, setCell_size]; exact h.size, (k _ (by omega) (by omega)).trans h.bk, (k _ (by omega) (by omega)).trans h.bt, ?_, ?_, (k _ (by omega) (by omega)).trans h.bn, (k _ (by omega) (by omega)).trans h.bf, (k _ (by omega) (by omega)).trans h.bo.1, (k _ (by omega) (by omega)).trans h.bo.2⟩
  · exact (cell_other _ (N + 3) _ _ (by omega)).trans (box_set h.bl _)
  · exact box_set ((cell_other W (N + 2) _ _ (by omega)).trans h.be) _

theorem load_plain {P : Program} {w : World} {T : TypeId} {d : TypeDesc} {b : Nat} {v : Value} (hu : P.underlying T = some d) (hd : d.isRow = false) (hc : w.cell? ⟨b, 0, none⟩ = some v) : (loadVar T ⟨b, 0, none⟩).run P w = .ok v w := by
  have ha : (isAgg T).run P w = .ok false w := by
    unfold isAgg
    rw [Sem.run_bind, run_underlying hu w]
    cases d <;> simp_all
  simp [loadVar, Sem.run_bind, ha, hc]

/-- What is handed back of two variables of one cell each. -/
theorem ret_two {P : Program} {fn : Func} {t u : Tmp} {T U : TypeId} {tmps : Array Value} {w : World} {b c : Nat} {v x : Value} {d d' : TypeDesc} (h : fn.results = #[.cell t T, .cell u U]) (ht : tmps.getD t undef = .pointer (some ⟨b, 0, none⟩)) (hu : tmps.getD u undef = .pointer (some ⟨c, 0, none⟩))
    (hT : P.underlying T = some d) (hd : d.isRow = false) (hU : P.underlying U = some d') (hd' : d'.isRow = false) (h1 : w.cell? ⟨b, 0, none⟩ = some v) (h2 : w.cell? ⟨c, 0, none⟩ = some x) : (results fn tmps).run P w = .ok (.tuple #[v, x]) w := by
  have ht' : tmps[t]?.getD undef = .pointer (some ⟨b, 0, none⟩) := by simpa using ht
  have hu' : tmps[u]?.getD undef = .pointer (some ⟨c, 0, none⟩) := by simpa using hu
  have l1 := load_plain (P := P) hT hd h1
  have l2 := load_plain (P := P) hU hd' h2
  simp [results, h, ht', hu', asAddr, l1, l2]

/-- What 'read' says: all fields and what is left, or an error. -/
def ReadP (L : Nat) (w : World) (rb : Nat) (R0 : Except Int (List Fld × List Nat)) (e : Ending) (w' : World) : Prop :=
  w.grownBy w' (some rb) ∧
    match R0 with
    | .ok (fs, rr) => (∃ v, e = .returned (.tuple #[v, .int .i64 0]) ∧ OwnF w' w.heap.size v fs) ∧ Rest L w' rb rr
    | .error er => e = .returned (.tuple #[.slice none 0 0, .int .i64 er]) ∧ er ≠ 0

/-- The block of deferred calls is shut. -/
theorem grown_shut {N : Nat} {w W : World} {rb k : Nat} (h : w.grownBy W (some rb)) (hN : w.heap.size = N) : w.grownBy (W.putObj (N + k) (.deferred none)) (some rb) :=
  h.andThen (grownBy_putObj' W (N + k) (.deferred none)) (fun j e => .inl (by have h0 : N + k = j := (by simpa using e); omega))

set_option maxHeartbeats 4000000 in
set_option maxRecDepth 100000 in
theorem read_field {L : Nat} (kv : Value) (ks : List Int) (rb : Nat) (bs : List Nat) (w : World) (hk : SlK w kv ks) (hold : ∀ b off n c, kv = .slice (some ⟨b, off, none⟩) n c → 0 < n → b ≠ rb) (hr : Rest L w rb bs) (hL : L ≤ w.heap.size) (hlen : ks.length ≤ 1000000000000) :
    Calls Tryz.prog 142 #[kv, .func (.func 143) #[.pointer (some ⟨rb, 0, none⟩)] #[]] w (ReadP L w rb (rA rField [] ks bs)) := by
  obtain ⟨hl, a, cap, rfl, hc⟩ := id hk
  have hrl : rb < w.heap.size := by obtain ⟨_, v, hv, _⟩ := hr; exact box_lt hv
  have HK := Lib.hid hk; have HR := Lib.hid hr; have HL := Lib.hid hL; have HOld := Lib.hid hold; have HRL := Lib.hid hrl
  clear hc hk hr hL hold hrl
  obtain ⟨R0, hR0⟩ : ∃ R0, rA rField [] ks bs = R0 := ⟨_, rfl⟩
  rw [hR0]
  have HR0 := Lib.hid hR0
  clear hR0
  refine (callsIn_wide (n := 0)).1 ?_
  refine callsIn_of_wp_marks Tryz.func142 rfl trivial ?_ rfl
  simp only [Tryz.ntmps142, List.size_toArray, List.length_cons, List.length_nil, Nat.reduceAdd, Nat.reduceSub, Array.replicate_succ, Array.replicate_zero, List.push_toArray, List.append_toArray, List.nil_append, List.cons_append]
  have hmf : ∀ (fn : Fn) (first cap : Array Value) (w : World), (Instr.makeFunc fn first cap).run Tryz.prog w = .ok (.func fn first cap) w := fun _ _ _ _ => rfl
  gi_wp2_with (refine ⟨trivial, rfl, ?_⟩; gi_at_call 153; refine (callsIn_wide.2 (row_any ks.length _ _ _)).mono ?_; rintro e w' ⟨rfl, rfl⟩)
  obtain ⟨s0, s1, s2, s3, s4, s5, s6, s7, s8⟩ := seven_alloc w (.cells #[.slice a ks.length cap] 22) (.cells #[.func (.func 143) #[.pointer (some ⟨rb, 0, none⟩)] #[]] 185) (.cells #[.slice none 0 0] 76)
    (.cells #[.int .i64 0] 32) (.cells #[.int .i64 ks.length] 3) (.cells #[.func (.func 182) #[] #[.pointer (some ⟨w.heap.size + 1, 0, none⟩), .pointer (some ⟨w.heap.size, 0, none⟩)]] 185) (.cells #[.slice none 0 0] 76)
  generalize hW6 : (((((((w.alloc (.cells #[.slice a ks.length cap] 22)).alloc (.cells #[.func (.func 143) #[.pointer (some ⟨rb, 0, none⟩)] #[]] 185)).alloc (.cells #[.slice none 0 0] 76)).alloc
    (.cells #[.int .i64 0] 32)).alloc (.cells #[.int .i64 ks.length] 3)).alloc (.cells #[.func (.func 182) #[] #[.pointer (some ⟨w.heap.size + 1, 0, none⟩), .pointer (some ⟨w.heap.size, 0, none⟩)]] 185)).alloc (.cells #[.slice none 0 0] 76)) = W6 at s0 s1 s2 s3 s4 s5 s6 s7 s8 ⊢
  clear hW6
  obtain ⟨N, hNs⟩ : ∃ N, w.heap.size = N := ⟨_, rfl⟩
  simp only [hNs, Nat.add_assoc, Nat.reduceAdd] at s0 s1 s2 s3 s4 s5 s6 s7 s8 ⊢
  have HN := Lib.hid hNs
  have hLN : L ≤ N := by rw [← hNs]; exact HL.out
  have hrN : rb < N := by rw [← hNs]; exact HRL.out
  have HLN := Lib.hid hLN; have HRN := Lib.hid hrN
  clear hNs hLN hrN
  refine range_stmt (n := 0) (gf := 192) (lb := #[.pointer (some ⟨N + 4, 0, none⟩), .pointer (some ⟨N + 5, 0, none⟩)])
    (I := fun W => ∃ r, RI L N w (.slice a ks.length cap) 143 rb rField ks R0 r ks.length W)
    (X := fun W => ∃ r er, RC N w (.slice a ks.length cap) 143 rb ks.length (.slice none 0 0) er r W ∧ er ≠ 0 ∧ R0 = .error er)
    rfl (enters_of Tryz.func192 (by kernel_rfl) rfl) ?hit ?hdone ?hstop
  case hit =>
    intro fn rec hrec
    simp only [s0] at hrec ⊢
    refine (row1_read (N + 7 + 1) ks.length (N + 4) (N + 5) #[.pointer (some ⟨N + 1, 0, none⟩), .pointer (some ⟨N, 0, none⟩)]
      (I := fun i W => RI L N w (.slice a ks.length cap) 143 rb rField ks R0 (rec .ready none) i W)
      (X := fun i W => ∃ er, RC N w (.slice a ks.length cap) 143 rb ks.length (.slice none 0 0) er (rec .done (some .ret)) W ∧ er ≠ 0 ∧ R0 = .error er)
      (Mid := fun i f er W => RM L N w (.slice a ks.length cap) 143 rb rField ks R0 (rec .ready none) i f er W)
      (fun i W h => ⟨box_cell h.rc.bn, box_cell h.rc.bf⟩) hl (fun i W hi h => rm_field HN.out.symm HK.out HOld.out HLN.out HRN.out i W hi h) ?yield _ ?start).mono ?post
    case post =>
      rintro e W ⟨hv, (h | ⟨i, hi, er, h, h1, h2⟩)⟩
      · exact ⟨hv, .inl ⟨⟨_, h⟩, h.rc.bo⟩⟩
      · exact ⟨hv, .inr ⟨⟨_, er, h, h1, h2⟩, h.bo⟩⟩
    case start =>
      have b1 : Below W6.heap.size W6 ((W6.alloc (.deferred (some []))).alloc (.loop (rec .ready none))) := ((Below.refl _ W6).alloc (Nat.le_refl _) _).alloc (by simp) _
      have hk : ∀ j, j < N + 7 → ((W6.alloc (.deferred (some []))).alloc (.loop (rec .ready none))).heap[j]? = W6.heap[j]? := fun j hj => b1.block j (by omega)
      have b2 : Below N w ((W6.alloc (.deferred (some []))).alloc (.loop (rec .ready none))) := s8.trans (b1.mono (by omega))
      refine ⟨⟨⟨b2.os, b2.tape, b2.output, b2.size, fun k hk _ => b2.block k (by rw [← HN.out]; exact hk)⟩, by simp [s0], (hk _ (by omega)).trans s1, (hk _ (by omega)).trans s2, (hk _ (by omega)).trans s3, (hk _ (by omega)).trans s4, (hk _ (by omega)).trans s5, (hk _ (by omega)).trans s6, ?_, ?_⟩, [], bs, ⟨_, (hk _ (by omega)).trans s7, World.ownsRow_nil _ _ _ _⟩, rfl, HR.out.below' b2 HLN.out HRN.out, HR0.out⟩
      · have := World.alloc_heap_new (W6.alloc (.deferred (some []))) (.loop (rec .ready none))
        rw [World.size_alloc, s0] at this
        exact this
      · simp only [alloc_heap, Array.getElem?_push, Array.size_push, s0]; simp
    case yield =>
      intro i f er W hi hm
      have hb1 : Below W.heap.size W (W.alloc (.cells #[.int .i64 f.kind, .int .i64 f.num, .string f.text, .bool f.is] 86)) := (Below.refl _ _).alloc (Nat.le_refl _) _
      have hw1 := hm.grow HRN.out hb1
      refine yield_round hrec (Rt := fun W' => er = 0 ∧ RI L N w (.slice a ks.length cap) 143 rb rField ks R0 (rec .ready none) (i + 1) W') hw1.rc.bo rfl ?_
      have HW1 := Lib.hid hw1
      clear hrec hw1 hm hb1 s0 s1 s2 s3 s4 s5 s6 s7 s8
      obtain ⟨W1, hW1⟩ : ∃ W1, W.alloc (.cells #[.int .i64 f.kind, .int .i64 f.num, .string f.text, .bool f.is] 86) = W1 := ⟨_, rfl⟩
      rw [hW1] at HW1 ⊢
      clear hW1
      gi_wp2
      have b2 : Below W1.heap.size W1 (W1.alloc (.cells #[.int .i64 f.kind, .int .i64 f.num, .string f.text, .bool f.is] 86)) := (Below.refl _ _).alloc (Nat.le_refl _) _
      refine ⟨(HW1.out.grow HRN.out b2).rc.bo.1, ?_⟩
      have hwb := (HW1.out.grow HRN.out b2).turn HN.out.symm HRN.out HLN.out (rec .busy none)
      have hlt := HW1.out.rc.size
      have hR : ((W1.alloc (.cells #[.int .i64 f.kind, .int .i64 f.num, .string f.text, .bool f.is] 86)).putObj (N + 8) (.loop (rec .busy none))).heap[W1.heap.size]? = some (.cells #[.int .i64 f.kind, .int .i64 f.num, .string f.text, .bool f.is] 86 (0, 0)) :=
        (World.putObj_heap_other (by omega)).trans (World.alloc_heap_new W1 _)
      generalize (W1.alloc (.cells #[.int .i64 f.kind, .int .i64 f.num, .string f.text, .bool f.is] 86)).putObj (N + 7 + 1) (.loop (rec .busy none)) = W3 at hwb hR ⊢
      generalize W1.heap.size = R at hR hlt ⊢
      clear b2 HW1
      have HWb := Lib.hid hwb
      obtain ⟨fs, ⟨v, hv, ho⟩, hfl, hcase⟩ := hwb.got
      obtain ⟨va, vn, vc, rfl⟩ := ownF_slice ho
      obtain ⟨c0, c1, c2, c3⟩ := fbox hR
      have cl := box_cell hv
      have fl := box_frozen hv
      have c2' := box_cell hwb.rc.bl
      have f2 := box_frozen hwb.rc.bl
      have c3' := box_cell hwb.rc.be
      have f3 := box_frozen hwb.rc.be
      have hN3 : N ≤ W3.heap.size := by have := hwb.rc.size; omega
      have HV := Lib.hid hv; have HO := Lib.hid ho; have HFL := Lib.hid hfl; have HCase := Lib.hid hcase
      clear hwb hv ho hR hlt hfl hcase
      by_cases h0 : er = 0
      · subst h0
        gi_wp2_with (gi_at_builtin; refine appF_in rfl (.tmp 20) (.tmp 22) rfl N (.slice va vn vc) fs rfl HO.out f rfl (by have := HFL.out; omega) hN3 ?_; intro v' W4 ho4 hk4; obtain ⟨va', vn', vc', rfl⟩ := ownF_slice ho4; have hv4 := hk4.box (show (76 : Nat) ≠ 86 by decide) HV.out; have cb4 := box_cell hv4; have fb4 := box_frozen hv4; have HV4 := Lib.hid hv4; have HO4 := Lib.hid ho4; have HK4 := Lib.hid hk4; clear ho4 hk4 hv4)
        have hw5 := HWb.out.rc.kept HN.out.symm HV.out HK4.out (.slice va' vn' vc')
        have hgot5 : Got N (fs ++ [f]) (W4.setCell ⟨N + 6, 0, none⟩ (.slice va' vn' vc')) := ⟨_, box_set HV4.out _, HO4.out.set HV4.out (by decide)⟩
        rcases HCase.out with ⟨rr, _, hrest, hA⟩ | ⟨hne, _⟩
        · have hrest5 : Rest L (W4.setCell ⟨N + 6, 0, none⟩ (.slice va' vn' vc')) rb rr := (hrest.below' HK4.out.toBelow HLN.out HRN.out).far (grownBy_setCell' W4 (N + 6) _) (by have := HLN.out; omega) (by have := HRN.out; omega)
          have hfin : RI L N w (.slice a ks.length cap) 143 rb rField ks R0 (rec .ready none) (i + 1) ((W4.setCell ⟨N + 6, 0, none⟩ (.slice va' vn' vc')).putObj (N + 8) (.loop (rec .ready none))) :=
            ⟨hw5.turn HN.out.symm _, fs ++ [f], rr, hgot5.turn hw5.bo.1, by rw [List.length_append, HFL.out]; rfl, hrest5.turn HLN.out HRN.out _, hA⟩
          first
            | exact ⟨hw5.bo.1, hfin⟩
            | exact ⟨hw5.bo.1, rfl, hfin⟩
        · exact absurd rfl hne
      · have h0' : True → (er != 0) = true := fun _ => by simpa using h0
        have HE : Hid (R0 = .error er) := Lib.hid (by
          rcases HCase.out with ⟨rr, h, _⟩ | ⟨_, h⟩
          · exact absurd h h0
          · exact h)
        have H0 := Lib.hid h0
        clear h0
        gi_wp2
        have hw5 := HWb.out.rc.fails HN.out.symm er
        exact ⟨hw5.bo.1, er, hw5.turn HN.out.symm _, H0.out, HE.out⟩
  case hdone =>
    rintro W r r' ⟨r0, hi⟩ hb
    simp only [s0]
    have hw := hi.rc.turn HN.out.symm r'
    obtain ⟨fs, rr, hgot, hfl, hrest, hA⟩ := hi.got
    have hgot2 := hgot.turn (r' := r') hi.rc.bo.1
    have hrest2 := hrest.turn HLN.out HRN.out (.loop r')
    have HA := Lib.hid hA
    clear hi hb s0 s1 s2 s3 s4 s5 s6 s7 s8 hgot hrest hA
    generalize W.putObj (N + 8) (.loop r') = W3 at hw hgot2 hrest2 ⊢
    obtain ⟨v, hv, ho⟩ := hgot2
    obtain ⟨va, vn, vc, rfl⟩ := ownF_slice ho
    have cl := box_cell hv
    have c2' := box_cell hw.bl
    have f2 := box_frozen hw.bl
    have c3' := box_cell hw.be
    have f3 := box_frozen hw.be
    have HW := Lib.hid hw; have HO := Lib.hid ho; have HV := Lib.hid hv; have HRest := Lib.hid hrest2
    clear hw ho hv hrest2
    gi_wp2
    have hb4 : Box ((W3.setCell ⟨N + 2, 0, none⟩ (.slice va vn vc)).setCell ⟨N + 3, 0, none⟩ (.int .i64 0)) (N + 2) 76 (.slice va vn vc) := (cell_other _ (N + 3) _ _ (by omega)).trans (box_set HW.out.bl _)
    have hb5 : Box ((W3.setCell ⟨N + 2, 0, none⟩ (.slice va vn vc)).setCell ⟨N + 3, 0, none⟩ (.int .i64 0)) (N + 3) 32 (.int .i64 0) := box_set ((cell_other W3 (N + 2) _ _ (by omega)).trans HW.out.be) _
    have hK : ((W3.setCell ⟨N + 2, 0, none⟩ (.slice va vn vc)).setCell ⟨N + 3, 0, none⟩ (.int .i64 0)).heap[N + 7]? = some (.deferred (some [])) := (cell_other _ (N + 3) _ _ (by omega)).trans ((cell_other W3 (N + 2) _ _ (by omega)).trans HW.out.bo.2)
    have gb : Below N W3 ((W3.setCell ⟨N + 2, 0, none⟩ (.slice va vn vc)).setCell ⟨N + 3, 0, none⟩ (.int .i64 0)) := ((Below.refl _ W3).setCell (p := ⟨N + 2, 0, none⟩) (by simp) _).setCell (p := ⟨N + 3, 0, none⟩) (by simp) _
    have g4 : w.grownBy ((W3.setCell ⟨N + 2, 0, none⟩ (.slice va vn vc)).setCell ⟨N + 3, 0, none⟩ (.int .i64 0)) (some rb) := ⟨gb.os.trans HW.out.bel.os, gb.tape.trans HW.out.bel.tape, gb.output.trans HW.out.bel.output, Nat.le_trans HW.out.bel.size gb.size, fun k hk1 hk2 => (gb.block k (by have := HN.out; omega)).trans (HW.out.bel.block k hk1 hk2)⟩
    have ho4 : OwnF ((W3.setCell ⟨N + 2, 0, none⟩ (.slice va vn vc)).setCell ⟨N + 3, 0, none⟩ (.int .i64 0)) N (.slice va vn vc) fs := (HO.out.set HW.out.bl (by decide)).set ((cell_other W3 (N + 2) _ _ (by omega)).trans HW.out.be) (by decide)
    have hr4 := (HRest.out.below' gb HLN.out HRN.out).far (grownBy_putObj' _ (N + 7) (.deferred none)) (by have := HLN.out; omega) (by have := HRN.out; omega)
    have hA : R0 = .ok (fs, rr) := by have := HA.out; rw [List.drop_length, rA] at this; exact this.symm
    refine ⟨by simp, .inl ⟨_, _, rfl, run_takeDeferred hK, ?_⟩⟩
    refine ⟨_, ret_two rfl rfl rfl Tryz.underlying76 rfl Tryz.underlying32 rfl (box_cell ((World.putObj_heap_other (by omega)).trans hb4)) (box_cell ((World.putObj_heap_other (by omega)).trans hb5)), grown_shut g4 HN.out, ?_⟩
    rw [hA]
    exact ⟨⟨_, rfl, by rw [HN.out]; exact ho4.put _ hK rfl⟩, hr4⟩
  case hstop =>
    rintro W r r' ⟨r0, er, hi, h1, h2⟩ hb
    simp only [s0]
    have hw := hi.turn HN.out.symm r'
    clear hi hb s0 s1 s2 s3 s4 s5 s6 s7 s8
    generalize W.putObj (N + 8) (.loop r') = W3 at hw ⊢
    have HW := Lib.hid hw
    clear hw
    gi_wp2
    have hK : W3.heap[N + 7]? = some (.deferred (some [])) := HW.out.bo.2
    refine ⟨by simp, .inl ⟨_, _, rfl, run_takeDeferred hK, ?_⟩⟩
    refine ⟨_, ret_two rfl rfl rfl Tryz.underlying76 rfl Tryz.underlying32 rfl (box_cell ((World.putObj_heap_other (by omega)).trans HW.out.bl)) (box_cell ((World.putObj_heap_other (by omega)).trans HW.out.be)), grown_shut HW.out.bel HN.out, ?_⟩
    rw [h2]
    exact ⟨rfl, h1⟩

end Go.Proofs.YtoeklnmmnmmjeaaGreat.code
