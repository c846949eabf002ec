/- 'write' of fields by 'putField': what it lays, and nothing where one is not fit. -/
import Derived.Test.YtoeklnmmnmmjeaaGreatRows
import Derived.Test.YtoeklnmmnmmjeaaGreatCodeRow
import Derived.Test.YtoeklnmmnmmjeaaGreatCodeHeap
import Derived.Shelf.Abstract
namespace Go.Proofs.YtoeklnmmnmmjeaaGreat.code
open Go.RowKit
open Go.Proofs.YtoeklnmmnmmjeaaGreat.kit Go.Proofs.YtoeklnmmnmmjeaaGreat.cm Go.Proofs.YtoeklnmmnmmjeaaGreat.iter
set_option linter.unusedVariables false
attribute [local go_sem] Oper.semAt_some

/-- Between two rounds of 'write': i fields are laid. -/
structure WI (N : Nat) (w : World) (sl : Value) (put : Nat) (fs : List Fld) (bs : Fld → List Nat) (r : Loop) (i : Nat) (W : World) : Prop where
  bel : Below N w W
  size : N + 8 ≤ W.heap.size
  bl : Box W N 76 sl
  bp : Box W (N + 1) 155 (.func (.func put) #[] #[])
  br : Box W (N + 2) 79 (.slice none 0 0)
  bn : Box W (N + 3) 3 (.int .i64 fs.length)
  bf : Box W (N + 4) 185 (.func (.func 154) #[] #[.pointer (some ⟨N, 0, none⟩)])
  bk : Book W (N + 6) r
  bb : ∃ v, Box W (N + 5) 79 v ∧ OwnI W N 5 .u8 v ((fs.take i).flatMap bs)
  fit : (fs.take i).all Fld.fit = true

theorem WI.grow {N : Nat} {w : World} {sl : Value} {put : Nat} {fs : List Fld} {bs : Fld → List Nat} {r : Loop} {i : Nat} {W W' : World} (h : WI N w sl put fs bs r i W) (hb : Below W.heap.size W W') : WI N w sl put fs bs r i W' := by
  have hN := h.size
  have k : ∀ j, j < N + 8 → W'.heap[j]? = W.heap[j]? := fun j hj => hb.block j (by omega)
  refine ⟨h.bel.trans (hb.mono (by omega)), Nat.le_trans h.size hb.size, (k _ (by omega)).trans h.bl, (k _ (by omega)).trans h.bp, (k _ (by omega)).trans h.br, (k _ (by omega)).trans h.bn, (k _ (by omega)).trans h.bf, ⟨(k _ (by omega)).trans h.bk.1, (k _ (by omega)).trans h.bk.2⟩, ?_, h.fit⟩
  obtain ⟨v, hv, ho⟩ := h.bb
  exact ⟨v, (k _ (by omega)).trans hv, ho.below hb⟩

theorem own_put {W : World} {B e : Nat} {k : IntKind} {v : Value} {ns : List Nat} (h : OwnI W B e k v ns) {l : Nat} {o : Obj} (o' : Obj) (hl : W.heap[l]? = some o) (hc : o.isCells = false) : OwnI (W.putObj l o') B e k v ns := by
  obtain ⟨h1, h2⟩ := id h
  refine ⟨h1, ?_⟩
  rcases h2 with ⟨rfl, h0⟩ | ⟨g, cap, cur, rfl, hB, hg, hr⟩
  · exact .inl ⟨rfl, h0⟩
  · refine .inr ⟨g, cap, cur, rfl, hB, ?_, hr⟩
    rw [World.putObj_heap_other (fun e => by subst e; rw [hg] at hl; cases hl; cases hc)]
    exact hg

/-- The record turns. -/
theorem WI.turn {N : Nat} {w : World} {sl : Value} {put : Nat} {fs : List Fld} {bs : Fld → List Nat} {r : Loop} {i : Nat} {W : World} (h : WI N w sl put fs bs r i W) (r' : Loop) : WI N w sl put fs bs r' i (W.putObj (N + 7) (.loop r')) := by
  have hN := h.size
  have hl : W.heap[N + 7]? = some (.loop r) := h.bk.1
  have k : ∀ j, j ≠ N + 7 → (W.putObj (N + 7) (.loop r')).heap[j]? = W.heap[j]? := fun j hj => World.putObj_heap_other hj
  have hb : Below N W (W.putObj (N + 7) (.loop r')) := ⟨rfl, rfl, rfl, by rw [World.putObj_size]; exact Nat.le_refl _, fun j hj => k j (by omega)⟩
  refine ⟨h.bel.trans hb, by rw [World.putObj_size]; exact h.size, (k _ (by omega)).trans h.bl, (k _ (by omega)).trans h.bp, (k _ (by omega)).trans h.br, (k _ (by omega)).trans h.bn, (k _ (by omega)).trans h.bf, ⟨World.putObj_heap_same (by omega), (k _ (by omega)).trans h.bk.2⟩, ?_, h.fit⟩
  obtain ⟨v, hv, ho⟩ := h.bb
  exact ⟨v, (k _ (by omega)).trans hv, own_put ho _ hl rfl⟩

theorem own_slice {W : World} {B e : Nat} {k : IntKind} {v : Value} {ns : List Nat} (h : OwnI W B e k v ns) : ∃ (a : Option Addr) (n c : Nat), v = .slice a n c := by
  rcases h.2 with ⟨rfl, _⟩ | ⟨g, cap, cur, rfl, _⟩
  · exact ⟨_, _, _, rfl⟩
  · exact ⟨_, _, _, rfl⟩

theorem take_next {fs : List Fld} {i : Nat} (hi : i < fs.length) {f : Fld} (hf : fs[i] = f) : fs.take (i + 1) = fs.take i ++ [f] := by
  rw [List.take_succ_eq_append_getElem hi, hf]

theorem setCell_size (W : World) (a : Addr) (v : Value) : (W.setCell a v).heap.size = W.heap.size := by
  have := (Below.refl 0 W).setCell (p := a) (Nat.zero_le _) v
  show (W.heap.modify _ _).size = _
  rw [Array.size_modify]

/-- A field is laid. -/
theorem WI.put {N : Nat} {w : World} {sl : Value} {put : Nat} {fs : List Fld} {bs : Fld → List Nat} {r : Loop} {i : Nat} {W W2 : World} (h : WI N w sl put fs bs r i W) {f : Fld} (hi : i < fs.length) (hf : fs[i] = f) (hfit : f.fit = true)
    {v' : Value} (hk : Kept N 5 W W2) (ho : OwnI W2 N 5 .u8 v' ((fs.take i).flatMap bs ++ bs f)) : WI N w sl put fs bs r (i + 1) (W2.setCell ⟨N + 5, 0, none⟩ v') := by
  have hN := h.size
  obtain ⟨v, hv, _⟩ := h.bb
  have kb : ∀ {j t u}, j ≠ N + 5 → t ≠ 5 → Box W j t u → Box (W2.setCell ⟨N + 5, 0, none⟩ v') j t u := fun hj ht hb => (cell_other W2 (N + 5) v' _ hj).trans (hk.box ht hb)
  have hv2 : Box W2 (N + 5) 79 v := hk.box (by decide) hv
  have ko : ∀ (j : Nat) (o : Obj), j ≠ N + 5 → W.heap[j]? = some o → o.isCells = false → (W2.setCell ⟨N + 5, 0, none⟩ v').heap[j]? = some o := fun j o hj hw hc =>
    (cell_other W2 (N + 5) v' _ hj).trans ((hk.other j (Array.getElem?_eq_some_iff.1 hw).1 (fun cur fz e => by rw [hw] at e; cases e; cases hc)).trans hw)
  refine ⟨(h.bel.trans hk.toBelow).setCell (p := ⟨N + 5, 0, none⟩) (by simp) _, by rw [setCell_size]; exact Nat.le_trans h.size hk.size, kb (by omega) (by decide) h.bl, kb (by omega) (by decide) h.bp, kb (by omega) (by decide) h.br, kb (by omega) (by decide) h.bn, kb (by omega) (by decide) h.bf,
    ⟨ko _ _ (by omega) h.bk.1 rfl, ko _ _ (by omega) h.bk.2 rfl⟩, ⟨v', box_set hv2 v', ?_⟩, ?_⟩
  · rw [take_next hi hf, List.flatMap_append]
    have e : [f].flatMap bs = bs f := by simp
    rw [e]
    refine ho.kept (grownBy_setCell' W2 (N + 5) v') ?_
    rcases ho.2 with ⟨rfl, _⟩ | ⟨g, cap, cur, rfl, hB, hg, _⟩
    · exact .inl rfl
    · refine .inr fun e => ?_
      have e' : g = N + 5 := by simpa [Value.ownBlock] using e
      subst e'
      have hv3 : W2.heap[N + 5]? = some (.cells #[v] 79 (0, 0)) := hv2
      rw [hg] at hv3
      simp at hv3
  · rw [take_next hi hf, List.all_append, h.fit]; simp [hfit]

/-- Nothing is stored once more where nothing was stored. -/
theorem WI.nilled {N : Nat} {w : World} {sl : Value} {put : Nat} {fs : List Fld} {bs : Fld → List Nat} {r : Loop} {i : Nat} {W : World} (h : WI N w sl put fs bs r i W) : WI N w sl put fs bs r i (W.setCell ⟨N + 2, 0, none⟩ (.slice none 0 0)) := by
  have hN := h.size
  have k : ∀ j, j ≠ N + 2 → (W.setCell ⟨N + 2, 0, none⟩ (.slice none 0 0)).heap[j]? = W.heap[j]? := fun j hj => cell_other W (N + 2) _ j hj
  obtain ⟨v, hv, ho⟩ := h.bb
  refine ⟨h.bel.setCell (p := ⟨N + 2, 0, none⟩) (by simp) _, by rw [setCell_size]; exact h.size, (k _ (by omega)).trans h.bl, (k _ (by omega)).trans h.bp, box_set h.br _, (k _ (by omega)).trans h.bn, (k _ (by omega)).trans h.bf, ⟨(k _ (by omega)).trans h.bk.1, (k _ (by omega)).trans h.bk.2⟩, ⟨v, (k _ (by omega)).trans hv, ?_⟩, h.fit⟩
  refine ho.kept (grownBy_setCell' W (N + 2) _) ?_
  rcases ho.2 with ⟨rfl, _⟩ | ⟨g, cap, cur, rfl, hB, hg, _⟩
  · exact .inl rfl
  · refine .inr fun e => ?_
    have e' : g = N + 2 := by simpa [Value.ownBlock] using e
    subst e'
    have hv3 : W.heap[N + 2]? = some (.cells #[.slice none 0 0] 79 (0, 0)) := h.br
    rw [hg] at hv3
    simp at hv3

/-- What is left behind: the own row, the block of deferred calls shut. -/
theorem shut_all {N : Nat} {w : World} {W : World} {k : Nat} (hb : Below N w W) (hk : W.heap[N + k]? = some (.deferred (some []))) : Below N w (W.putObj (N + k) (.deferred none)) :=
  ⟨hb.os, hb.tape, hb.output, by rw [World.putObj_size]; exact hb.size, fun j hj => (World.putObj_heap_other (by omega)).trans (hb.block j hj)⟩
theorem own_setCell {W : World} {B e : Nat} {kd : IntKind} {v : Value} {ns : List Nat} (h : OwnI W B e kd v ns) {b : Nat} {t : TypeId} {u u' : Value} (hb : Box W b t u) (ht : t ≠ e) : OwnI (W.setCell ⟨b, 0, none⟩ u') B e kd v ns := by
  refine World.ownsRow.kept h (grownBy_setCell' W b u') ?_
  rcases h.2 with ⟨rfl, _⟩ | ⟨g, cap, cur, rfl, hB, hg, _⟩
  · exact .inl rfl
  · refine .inr fun e => ?_
    have e' : g = b := by simpa [Value.ownBlock] using e
    subst e'
    have hb' : W.heap[g]? = some (.cells #[u] t (0, 0)) := hb
    rw [hg] at hb'
    simp at hb'
    exact ht hb'.2.symm

/-- What a row of fields hands out at its place i: the field, if it is fit; else nothing, and an error. -/
structure WMid (N : Nat) (w : World) (sl : Value) (put : Nat) (fs : List Fld) (bs : Fld → List Nat) (r : Loop) (i : Nat) (f : Fld) (er : Int) (W : World) : Prop where
  wi : WI N w sl put fs bs r i W
  hi : i < fs.length
  hf : f = if fs[i].fit then fs[i] else zeroF
  her : er = if fs[i].fit then 0 else 14

theorem wmid_field {N : Nat} {w : World} {sl : Value} {put : Nat} {fs : List Fld} {bs : Fld → List Nat} {r : Loop} (hNs : N = w.heap.size) (hs : SlF w sl fs) (i : Nat) (W : World) (hi : i < fs.length) (h : WI N w sl put fs bs r i W) :
    CallsIn Fence.wide 0 Tryz.prog 154 (#[.int .i64 i] ++ #[.pointer (some ⟨N, 0, none⟩)]) W fun e W' =>
      ∃ (f : Fld) (er : Int), e = .returned (.tuple #[.agg #[.int .i64 f.kind, .int .i64 f.num, .string f.text, .bool f.is], .int .i64 er]) ∧ WMid N w sl put fs bs r i f er W' := by
  have hsW : SlF W sl fs := hs.below (by rw [← hNs]; exact h.bel)
  refine (callsIn_wide.2 (pick_any W N sl fs i hi fs[i] rfl h.bl hsW)).mono ?_
  rintro e W' ⟨rfl, hb⟩
  exact ⟨_, _, rfl, h.grow hb, hi, rfl, rfl⟩

set_option maxHeartbeats 4000000 in
set_option maxRecDepth 100000 in
theorem write_putField (sl : Value) (fs : List Fld) (w : World) (hs : SlF w sl fs) (hok : ∀ f ∈ fs, f.Ok) (hlen : (fs.flatMap Fld.bytes).length ≤ 800000000000) (htx : ∀ f ∈ fs, f.text.size ≤ 100000000000) :
    Calls Tryz.prog 117 #[sl, .func (.func 118) #[] #[]] w fun e w' => ∃ v, e = .returned v ∧ OwnI w' w.heap.size 5 .u8 v (bytesL fs) ∧ Below w.heap.size w w' := by
  obtain ⟨hl, a, cap, rfl, hc⟩ := id hs
  have HS := Lib.hid hs; have HOK := Lib.hid hok; have HTX := Lib.hid htx
  clear hc hs hok htx
  refine (callsIn_wide (n := 0)).1 ?_
  refine callsIn_of_wp_marks Tryz.func117 rfl trivial ?_ rfl
  simp only [Tryz.ntmps117, List.size_toArray, List.length_cons, List.length_nil, Nat.reduceAdd, Nat.reduceSub, Array.replicate_succ, Array.replicate_zero, List.push_toArray, List.append_toArray, List.nil_append, List.cons_append]
  have hmf : ∀ (fn : Fn) (first cap : Array Value) (w : World), (Instr.makeFunc fn first cap).run Tryz.prog w = .ok (.func fn first cap) w := fun _ _ _ _ => rfl
  gi_wp2_with (refine ⟨trivial, rfl, ?_⟩; gi_at_call 153; refine (callsIn_wide.2 (row_any fs.length _ _ _)).mono ?_; rintro e w' ⟨rfl, rfl⟩)
  obtain ⟨s0, s1, s2, s3, s4, s5, s6, s7⟩ := six_alloc w (.cells #[.slice a fs.length cap] 76) (.cells #[.func (.func 118) #[] #[]] 155) (.cells #[.slice none 0 0] 79)
    (.cells #[.int .i64 fs.length] 3) (.cells #[.func (.func 154) #[] #[.pointer (some ⟨w.heap.size, 0, none⟩)]] 185) (.cells #[.slice none 0 0] 79)
  generalize hW6 : ((((((w.alloc (.cells #[.slice a fs.length cap] 76)).alloc (.cells #[.func (.func 118) #[] #[]] 155)).alloc (.cells #[.slice none 0 0] 79)).alloc
    (.cells #[.int .i64 fs.length] 3)).alloc (.cells #[.func (.func 154) #[] #[.pointer (some ⟨w.heap.size, 0, none⟩)]] 185)).alloc (.cells #[.slice none 0 0] 79)) = W6 at s0 s1 s2 s3 s4 s5 s6 s7 ⊢
  clear hW6
  obtain ⟨N, hNs⟩ : ∃ N, w.heap.size = N := ⟨_, rfl⟩
  simp only [hNs, Nat.add_assoc, Nat.reduceAdd] at s0 s1 s2 s3 s4 s5 s6 s7 ⊢
  have HN := Lib.hid hNs
  clear hNs
  refine range_stmt (n := 0) (gf := 192) (lb := #[.pointer (some ⟨N + 3, 0, none⟩), .pointer (some ⟨N + 4, 0, none⟩)])
    (I := fun W => ∃ r, WI N w (.slice a fs.length cap) 118 fs Fld.bytes r fs.length W) (X := fun W => ∃ r i, WI N w (.slice a fs.length cap) 118 fs Fld.bytes r i W ∧ ∃ h : i < fs.length, fs[i].fit = false)
    rfl (enters_of Tryz.func192 (by kernel_rfl) rfl) ?hit ?hdone ?hstop
  case hit =>
    intro fn rec hrec
    simp only [s0] at hrec ⊢
    refine (row1_write (N + 6 + 1) fs.length (N + 3) (N + 4) #[.pointer (some ⟨N, 0, none⟩)]
      (I := fun i W => WI N w (.slice a fs.length cap) 118 fs Fld.bytes (rec .ready none) i W)
      (X := fun i W => WI N w (.slice a fs.length cap) 118 fs Fld.bytes (rec .done (some .ret)) i W ∧ ∃ h : i < fs.length, fs[i].fit = false)
      (Mid := fun i f er W => WMid N w (.slice a fs.length cap) 118 fs Fld.bytes (rec .ready none) i f er W)
      (fun i W h => ⟨box_cell h.bn, box_cell h.bf⟩) hl (fun i W hi h => wmid_field HN.out.symm HS.out i W hi h) ?yield _ ?start).mono ?post
    case post =>
      rintro e W ⟨hv, (h | ⟨i, hi, h, hf⟩)⟩
      · exact ⟨hv, .inl ⟨⟨_, h⟩, h.bk⟩⟩
      · exact ⟨hv, .inr ⟨⟨_, i, h, hf⟩, h.bk⟩⟩
    case start =>
      have b1 : Below W6.heap.size W6 ((W6.alloc (.deferred (some []))).alloc (.loop (rec .ready none))) := ((Below.refl _ W6).alloc (Nat.le_refl _) _).alloc (by simp) _
      have hk : ∀ j, j < N + 6 → ((W6.alloc (.deferred (some []))).alloc (.loop (rec .ready none))).heap[j]? = W6.heap[j]? := fun j hj => b1.block j (by omega)
      refine ⟨s7.trans (b1.mono (by omega)), by simp [s0], (hk _ (by omega)).trans s1, (hk _ (by omega)).trans s2, (hk _ (by omega)).trans s3, (hk _ (by omega)).trans s4, (hk _ (by omega)).trans s5, ⟨?_, ?_⟩, ⟨_, (hk _ (by omega)).trans s6, OwnI.nil _ _ _ _⟩, rfl⟩
      · have := World.alloc_heap_new (W6.alloc (.deferred (some []))) (.loop (rec .ready none))
        rw [World.size_alloc, s0] at this
        exact this
      · simp only [alloc_heap, Array.getElem?_push, Array.size_push, s0]; simp
    case yield =>
      intro i f er W hi hm
      have hb1 : Below W.heap.size W (W.alloc (.cells #[.int .i64 f.kind, .int .i64 f.num, .string f.text, .bool f.is] 86)) := (Below.refl _ _).alloc (Nat.le_refl _) _
      have hw1 := hm.wi.grow hb1
      refine yield_round hrec (Rt := fun W' => er = 0 ∧ WI N w (.slice a fs.length cap) 118 fs Fld.bytes (rec .ready none) (i + 1) W') hw1.bk rfl ?_
      have hsz1 := hb1.size
      have HW1 := Lib.hid hw1; have HM := Lib.hid hm
      clear hrec hw1 hm hb1 s0 s1 s2 s3 s4 s5 s6 s7
      obtain ⟨W1, hW1⟩ : ∃ W1, W.alloc (.cells #[.int .i64 f.kind, .int .i64 f.num, .string f.text, .bool f.is] 86) = W1 := ⟨_, rfl⟩
      rw [hW1] at HW1 ⊢
      clear hW1 hsz1
      gi_wp2
      have b2 : Below W1.heap.size W1 (W1.alloc (.cells #[.int .i64 f.kind, .int .i64 f.num, .string f.text, .bool f.is] 86)) := (Below.refl _ _).alloc (Nat.le_refl _) _
      refine ⟨(HW1.out.grow b2).bk.1, ?_⟩
      have hwb := (HW1.out.grow b2).turn (rec .busy none)
      have hlt := HW1.out.size
      have hR : ((W1.alloc (.cells #[.int .i64 f.kind, .int .i64 f.num, .string f.text, .bool f.is] 86)).putObj (N + 7) (.loop (rec .busy none))).heap[W1.heap.size]? = some (.cells #[.int .i64 f.kind, .int .i64 f.num, .string f.text, .bool f.is] 86 (0, 0)) :=
        (World.putObj_heap_other (by omega)).trans (World.alloc_heap_new W1 _)
      generalize (W1.alloc (.cells #[.int .i64 f.kind, .int .i64 f.num, .string f.text, .bool f.is] 86)).putObj (N + 6 + 1) (.loop (rec .busy none)) = W3 at hwb hR ⊢
      generalize W1.heap.size = R at hR hlt ⊢
      clear b2 HW1
      have HWb := Lib.hid hwb
      obtain ⟨v, hv, ho⟩ := hwb.bb
      obtain ⟨va, vn, vc, rfl⟩ := own_slice ho
      have c0 : W3.cell? ⟨R, 0, none⟩ = some (.int .i64 f.kind) := by simp [World.cell?, hR]
      have c1 : W3.cell? ⟨R, 1, none⟩ = some (.int .i64 f.num) := by simp [World.cell?, hR]
      have c2 : W3.cell? ⟨R, 2, none⟩ = some (.string f.text) := by simp [World.cell?, hR]
      have c3 : W3.cell? ⟨R, 3, none⟩ = some (.bool f.is) := by simp [World.cell?, hR]
      have cp := box_cell hwb.bp
      have cb := box_cell hv
      have cr := box_cell hwb.br
      have fr := box_frozen hwb.br
      have HV := Lib.hid hv; have HO := Lib.hid ho
      have hN3 : N ≤ W3.heap.size := by have := hwb.size; omega
      clear hwb hv ho hR hlt
      by_cases hfit : fs[i].fit = true
      · have hf := HM.out.hf; have her := HM.out.her
        rw [if_pos hfit] at hf her
        subst her
        have hokf : f.Ok := by rw [hf]; exact HOK.out _ (List.getElem_mem hi)
        have htxf : f.text.size ≤ 100000000000 := by rw [hf]; exact HTX.out _ (List.getElem_mem hi)
        have hff : f.fit = true := by rw [hf]; exact hfit
        have hlf : ((fs.take i).flatMap Fld.bytes).length ≤ 900000000000 := by
          have h1 : fs.flatMap Fld.bytes = (fs.take i).flatMap Fld.bytes ++ (fs.drop i).flatMap Fld.bytes := by rw [← List.flatMap_append, List.take_append_drop]
          rw [h1, List.length_append] at hlen
          omega
        have HF := Lib.hid hf.symm; have HFF := Lib.hid hff; have HK := Lib.hid hokf; have HT := Lib.hid htxf; have HL := Lib.hid hlf
        clear hf hokf htxf hff hlf hfit
        gi_wp2_with (refine ⟨trivial, rfl, ?_⟩; gi_at_call 118; refine (CallsIn.inRound (N + 6 + 1) (callsIn_wide.2 (putField_any f HK.out HFF.out HT.out N (.slice va vn vc) _ W3 HO.out hN3 HL.out))).mono ?_; rintro e W4 ⟨⟨v', rfl, ho4⟩, hk4⟩; obtain ⟨va', vn', vc', rfl⟩ := own_slice ho4; have hv4 := hk4.box (show (79 : Nat) ≠ 5 by decide) HV.out; have cb4 := box_cell hv4; have fb4 := box_frozen hv4; have HO4 := Lib.hid ho4; have HK4 := Lib.hid hk4; clear ho4 hk4 hv4)
        have hw5 := HWb.out.put hi HF.out HFF.out HK4.out HO4.out
        first
          | exact ⟨hw5.bk.1, hw5.turn _⟩
          | exact ⟨hw5.bk.1, rfl, hw5.turn _⟩
      · have her := HM.out.her
        rw [if_neg hfit] at her
        subst her
        have HFit := Lib.hid (show fs[i].fit = false by simpa using hfit)
        clear hfit
        gi_wp2
        have hw5 := HWb.out.nilled
        exact ⟨hw5.bk.1, hw5.turn _, hi, HFit.out⟩
  case hdone =>
    rintro W r r' ⟨r0, hi⟩ hb
    simp only [s0]
    have hw := hi.turn r'
    clear hi hb s0 s1 s2 s3 s4 s5 s6 s7
    generalize W.putObj (N + 7) (.loop r') = W3 at hw ⊢
    obtain ⟨v, hv, ho⟩ := hw.bb
    obtain ⟨va, vn, vc, rfl⟩ := own_slice ho
    have cb := box_cell hv
    have cr := box_cell hw.br
    have fr := box_frozen hw.br
    have HW := Lib.hid hw; have HO := Lib.hid ho; have HV := Lib.hid hv
    clear hw ho hv
    gi_wp2
    have hK : (W3.setCell ⟨N + 2, 0, none⟩ (.slice va vn vc)).heap[N + 6]? = some (.deferred (some [])) := (cell_other W3 (N + 2) _ _ (by omega)).trans HW.out.bk.2
    have hbox : Box ((W3.setCell ⟨N + 2, 0, none⟩ (.slice va vn vc)).putObj (N + 6) (.deferred none)) (N + 2) 79 (.slice va vn vc) := (World.putObj_heap_other (by omega)).trans (box_set HW.out.br _)
    refine ⟨by simp, .inl ⟨_, _, rfl, run_takeDeferred hK, ?_⟩⟩
    refine ⟨_, ret_cell_one rfl rfl (box_cell hbox) Tryz.underlying79, _, rfl, ?_, ?_⟩
    · have hfits : fits fs = true := by have := HW.out.fit; rwa [List.take_length] at this
      have h1 := HO.out
      rw [List.take_length] at h1
      rw [HN.out, bytesL, if_pos hfits]
      exact own_put (own_setCell h1 HW.out.br (by decide)) _ hK rfl
    · rw [HN.out]
      exact shut_all (HW.out.bel.setCell (p := ⟨N + 2, 0, none⟩) (by simp) _) hK
  case hstop =>
    rintro W r r' ⟨r0, i, hi, hlt, hf⟩ hb
    simp only [s0]
    have hw := hi.turn r'
    clear hi hb s0 s1 s2 s3 s4 s5 s6 s7
    generalize W.putObj (N + 7) (.loop r') = W3 at hw ⊢
    have cr := box_cell hw.br
    have HW := Lib.hid hw
    clear hw
    gi_wp2
    have hK : W3.heap[N + 6]? = some (.deferred (some [])) := HW.out.bk.2
    have hbox : Box (W3.putObj (N + 6) (.deferred none)) (N + 2) 79 (.slice none 0 0) := (World.putObj_heap_other (by omega)).trans HW.out.br
    refine ⟨by simp, .inl ⟨_, _, rfl, run_takeDeferred hK, ?_⟩⟩
    refine ⟨_, ret_cell_one rfl rfl (box_cell hbox) Tryz.underlying79, _, rfl, ?_, ?_⟩
    · have hfits : ¬ fits fs = true := fun h => by
        have := List.all_eq_true.1 h fs[i] (List.getElem_mem hlt)
        rw [hf] at this; cases this
      rw [bytesL, if_neg hfits]
      exact OwnI.nil _ _ _ _
    · rw [HN.out]
      exact shut_all HW.out.bel hK

end Go.Proofs.YtoeklnmmnmmjeaaGreat.code
