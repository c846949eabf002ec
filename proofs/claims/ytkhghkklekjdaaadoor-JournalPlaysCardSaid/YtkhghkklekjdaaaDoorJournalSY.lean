/- What lies in a round of the reading of a row. -/
import Derived.Test.YtkhghkklekjdaaaDoorRows
import Derived.Test.YtkhghkklekjdaaaDoorJournalText
namespace Go.Proofs.YtkhghkklekjdaaaDoor.journal
open Go.RowKit
open Go.Proofs.YtkhghkklekjdaaaDoor.kit Go.Proofs.YtkhghkklekjdaaaDoor.own Go.Proofs.YtkhghkklekjdaaaDoor.jm Go.Proofs.YtkhghkklekjdaaaDoor.iter
open Go.Proofs.YtkhghkklekjdaaaDoor.sector (bv ba Dev DevAt strN conv_sl)
set_option linter.unusedVariables false
set_option linter.unusedSimpArgs false

structure SY (N R : Nat) (w : World) (i : Nat) (s : Rd) (rb : Loop) (mk nm : Nat) (v3 : Value) (W : World) : Prop where
  sb : SB N w i s W
  hl : W.heap[N + 4 + 1]? = some (.loop rb)
  hd : W.heap[N + 4]? = some (.deferred (some []))
  pb : Box3 W R 92 (.int .u8 (mk : Int)) (.int .i64 (nm : Int)) v3
section
variable {N R : Nat} {w : World} {i : Nat} {s : Rd} {rb : Loop} {mk nm : Nat} {v3 : Value} {W : World}
theorem SY.keep {W' : World} (h : SY N R w i s rb mk nm v3 W) (hb : Below W.heap.size W W') : SY N R w i s rb mk nm v3 W' :=
  ⟨h.sb.keep hb, (hb.block _ (Array.getElem?_eq_some_iff.1 h.hl).1).trans h.hl, (hb.block _ (Array.getElem?_eq_some_iff.1 h.hd).1).trans h.hd, h.pb.keep hb⟩
theorem SY.size (h : SY N R w i s rb mk nm v3 W) : N + 6 ≤ W.heap.size := by
  have := (Array.getElem?_eq_some_iff.1 h.hl).1; omega
theorem SY.rec_ (h : SY N R w i s rb mk nm v3 W) : ∃ v, RecAt W (N + 6) (N + 1) s.num s.count s.sum s.text v := by
  obtain ⟨v, h1, h2⟩ := h.sb.r
  exact ⟨v, h1, h2⟩
theorem SY.cells (h : SY N R w i s rb mk nm v3 W) : W.cell? ⟨R, 0, none⟩ = some (.int .u8 (mk : Int)) ∧ W.cell? ⟨R, 1, none⟩ = some (.int .i64 (nm : Int)) ∧ W.cell? ⟨R, 2, none⟩ = some v3 ∧
    W.cell? ⟨N + 1, 0, none⟩ = some (.int .i64 (s.num : Int)) ∧ W.cell? ⟨N + 1, 1, none⟩ = some (.int .i64 (s.count : Int)) ∧ W.cell? ⟨N + 1, 2, none⟩ = some (.int .u32 (s.sum : Int)) ∧
    W.cell? ⟨N + 2, 0, none⟩ = some (.int .i64 (s.taken : Int)) ∧ W.cell? ⟨N + 3, 0, none⟩ = some (.int .i64 (s.last : Int)) := by
  obtain ⟨p0, p1, p2⟩ := h.pb.cells
  obtain ⟨v, h1, _⟩ := h.sb.r
  obtain ⟨r0, r1, r2, r3⟩ := h1.cells
  have h2 := h.sb.taken; have h3 := h.sb.last
  exact ⟨p0, p1, p2, r0, r1, r2, by simp [World.cell?, h2], by simp [World.cell?, h3]⟩
theorem SY.free (h : SY N R w i s rb mk nm v3 W) : W.frozen? ⟨N, 0, none⟩ = false ∧ W.frozen? ⟨N + 1, 0, none⟩ = false ∧ W.frozen? ⟨N + 1, 1, none⟩ = false ∧ W.frozen? ⟨N + 1, 2, none⟩ = false ∧ W.frozen? ⟨N + 1, 3, none⟩ = false ∧ W.frozen? ⟨N + 2, 0, none⟩ = false ∧ W.frozen? ⟨N + 3, 0, none⟩ = false := by
  obtain ⟨v, h1, _⟩ := h.sb.r
  obtain ⟨r0, r1, r2, r3⟩ := h1.free
  obtain ⟨u, h4, _⟩ := h.sb.l
  have h2 := h.sb.taken; have h3 := h.sb.last
  exact ⟨by simp [World.frozen?, h4], r0, r1, r2, r3, by simp [World.frozen?, h2], by simp [World.frozen?, h3]⟩

/-- One cell of one of the variables is turned. -/
theorem SY.setBox (h : SY N R w i s rb mk nm v3 W) (hNR : N + 6 ≤ R) (b j : Nat) (hb : N ≤ b ∧ b < N + 4) (u : Value) :
    Below N w (W.setCell ⟨b, j, none⟩ u) ∧ (∀ k, k ≠ b → (W.setCell ⟨b, j, none⟩ u).heap[k]? = W.heap[k]?) ∧ (W.setCell ⟨b, j, none⟩ u).heap[N + 4 + 1]? = some (.loop rb) ∧ (W.setCell ⟨b, j, none⟩ u).heap[N + 4]? = some (.deferred (some [])) ∧
      Box3 (W.setCell ⟨b, j, none⟩ u) R 92 (.int .u8 (mk : Int)) (.int .i64 (nm : Int)) v3 := by
  have k : ∀ k, k ≠ b → (W.setCell ⟨b, j, none⟩ u).heap[k]? = W.heap[k]? := fun k hk => heap_setCell_other W ⟨b, j, none⟩ k u hk
  exact ⟨h.sb.bel.setCell (p := ⟨b, j, none⟩) hb.1 u, k, (k _ (by omega)).trans h.hl, (k _ (by omega)).trans h.hd, (k _ (by omega)).trans h.pb⟩

theorem SY.setTaken (h : SY N R w i s rb mk nm v3 W) (hNR : N + 6 ≤ R) (x : Nat) (hok : RdOk i { s with taken := x }) : SY N R w i { s with taken := x } rb mk nm v3 (W.setCell ⟨N + 2, 0, none⟩ (.int .i64 (x : Int))) := by
  obtain ⟨h1, h2, h3, h4, h5⟩ := h.setBox hNR (N + 2) 0 (by omega) (.int .i64 (x : Int))
  obtain ⟨v, a1, a2⟩ := h.sb.l
  obtain ⟨u, b1, b2⟩ := h.sb.r
  refine ⟨⟨h1, ⟨v, (h2 _ (by omega)).trans a1, a2.stays fun g hg => h2 g ?_⟩, ⟨u, (h2 _ (by omega)).trans b1, OwnI.stays b2 fun g hg => h2 g ?_⟩, ?_, (h2 _ (by omega)).trans h.sb.last, hok⟩, h3, h4, h5⟩
  · have := (World.ownsRow.lt a2 g hg).1; omega
  · have := (World.ownsRow.lt b2 g hg).1; omega
  · simpa using heap_setCell_same W (N + 2) 0 _ _ (.int .i64 (x : Int)) h.sb.taken
theorem SY.setLast (h : SY N R w i s rb mk nm v3 W) (hNR : N + 6 ≤ R) (x : Nat) (hok : RdOk i { s with last := x }) : SY N R w i { s with last := x } rb mk nm v3 (W.setCell ⟨N + 3, 0, none⟩ (.int .i64 (x : Int))) := by
  obtain ⟨h1, h2, h3, h4, h5⟩ := h.setBox hNR (N + 3) 0 (by omega) (.int .i64 (x : Int))
  obtain ⟨v, a1, a2⟩ := h.sb.l
  obtain ⟨u, b1, b2⟩ := h.sb.r
  refine ⟨⟨h1, ⟨v, (h2 _ (by omega)).trans a1, a2.stays fun g hg => h2 g ?_⟩, ⟨u, (h2 _ (by omega)).trans b1, OwnI.stays b2 fun g hg => h2 g ?_⟩, (h2 _ (by omega)).trans h.sb.taken, ?_, hok⟩, h3, h4, h5⟩
  · have := (World.ownsRow.lt a2 g hg).1; omega
  · have := (World.ownsRow.lt b2 g hg).1; omega
  · simpa using heap_setCell_same W (N + 3) 0 _ _ (.int .i64 (x : Int)) h.sb.last

/-- What is left where rows of one type alone may be turned. -/
theorem SY.kept {e : TypeId} {W1 : World} (h : SY N R w i s rb mk nm v3 W) (hNR : N + 6 ≤ R) (he : e ≠ 92) (hk : Kept (N + 6) e W W1) :
    Below N w W1 ∧ W1.heap[N + 4 + 1]? = some (.loop rb) ∧ W1.heap[N + 4]? = some (.deferred (some [])) ∧ Box3 W1 R 92 (.int .u8 (mk : Int)) (.int .i64 (nm : Int)) v3 ∧
      (∀ k, k < N + 6 → W1.heap[k]? = W.heap[k]?) :=
  ⟨h.sb.bel.trans (hk.toBelow.mono (by omega)), (hk.below _ (by omega)).trans h.hl, (hk.below _ (by omega)).trans h.hd, hk.box (fun e' => he e'.symm) h.pb, hk.below⟩

theorem own_kept {w w' : World} {B e e' size n : Nat} {v : Value} {xs : List Value} (h : w.ownsRow B e size v n xs) (hne : e ≠ e') {B' : Nat} (hk : Kept B' e' w w') : w'.ownsRow B e size v n xs :=
  sector.own_stays h fun g hg => by
    obtain ⟨cur, hc⟩ := sector.own_type h hg
    exact (hk.box hne hc).trans hc.symm

/-- The bytes of the record under way have grown. -/
theorem SY.gath {i' : Nat} {W1 : World} {v' : Value} {t' : List Nat} (h : SY N R w i s rb mk nm v3 W) (hNR : N + 6 ≤ R) (hk : Kept (N + 6) 5 W W1) (ho : OwnI W1 (N + 6) 5 .u8 v' t') (hok : RdOk i' { s with text := t' }) :
    SY N R w i' { s with text := t' } rb mk nm v3 (W1.setCell ⟨N + 1, 3, none⟩ v') := by
  obtain ⟨k1, k2, k3, k4, k5⟩ := h.kept hNR (by decide) hk
  obtain ⟨v, a1, a2⟩ := h.sb.l
  obtain ⟨u, b1, b2⟩ := h.sb.r
  have o : ∀ k, k ≠ N + 1 → (W1.setCell ⟨N + 1, 3, none⟩ v').heap[k]? = W1.heap[k]? := fun k hk => heap_setCell_other W1 ⟨N + 1, 3, none⟩ k v' hk
  have a3 : OwnT W1 (N + 6) v (s.l.map strN) := own_kept a2 (by decide) hk
  refine ⟨⟨k1.setCell (p := ⟨N + 1, 3, none⟩) (Nat.le_succ _) v', ⟨v, (o _ (by omega)).trans ((k5 _ (by omega)).trans a1), a3.stays fun g hg => o g ?_⟩, ⟨v', ?_, OwnI.stays ho fun g hg => o g ?_⟩, (o _ (by omega)).trans ((k5 _ (by omega)).trans h.sb.taken), (o _ (by omega)).trans ((k5 _ (by omega)).trans h.sb.last), hok⟩, (o _ (by omega)).trans k2, (o _ (by omega)).trans k3, (o _ (by omega)).trans k4⟩
  · have := (World.ownsRow.lt a3 g hg).1; omega
  · exact RecBox.text ((k5 _ (by omega)).trans b1) v'
  · have := (World.ownsRow.lt ho g hg).1; omega

/-- A new record is under way. -/
theorem SY.beg {i' : Nat} {n' c' s' : Nat} {v' : Value} {t' : List Nat} (h : SY N R w i s rb mk nm v3 W) (hNR : N + 6 ≤ R) (ho : OwnI W (N + 6) 5 .u8 v' t') (hok : RdOk i' { s with num := n', count := c', sum := s', text := t' }) :
    SY N R w i' { s with num := n', count := c', sum := s', text := t' } rb mk nm v3 ((((W.setCell ⟨N + 1, 0, none⟩ (.int .i64 (n' : Int))).setCell ⟨N + 1, 1, none⟩ (.int .i64 (c' : Int))).setCell ⟨N + 1, 2, none⟩ (.int .u32 (s' : Int))).setCell ⟨N + 1, 3, none⟩ v') := by
  obtain ⟨v, a1, a2⟩ := h.sb.l
  obtain ⟨u, b1, b2⟩ := h.sb.r
  have hb := below4 h.sb.bel (N := N + 1) (Nat.le_succ _) (.int .i64 (n' : Int)) (.int .i64 (c' : Int)) (.int .u32 (s' : Int)) v'
  have hrb := b1.set n' c' s' v'
  have o : ∀ k, k ≠ N + 1 → ((((W.setCell ⟨N + 1, 0, none⟩ (.int .i64 (n' : Int))).setCell ⟨N + 1, 1, none⟩ (.int .i64 (c' : Int))).setCell ⟨N + 1, 2, none⟩ (.int .u32 (s' : Int))).setCell ⟨N + 1, 3, none⟩ v').heap[k]? = W.heap[k]? := fun k hk => by
    rw [heap_setCell_other _ _ _ _ hk, heap_setCell_other _ _ _ _ hk, heap_setCell_other _ _ _ _ hk, heap_setCell_other _ _ _ _ hk]
  generalize ((((W.setCell ⟨N + 1, 0, none⟩ (.int .i64 (n' : Int))).setCell ⟨N + 1, 1, none⟩ (.int .i64 (c' : Int))).setCell ⟨N + 1, 2, none⟩ (.int .u32 (s' : Int))).setCell ⟨N + 1, 3, none⟩ v') = W1 at hb hrb o ⊢
  refine ⟨⟨hb, ⟨v, (o _ (by omega)).trans a1, a2.stays fun g hg => o g ?_⟩, ⟨v', hrb, OwnI.stays ho fun g hg => o g ?_⟩, (o _ (by omega)).trans h.sb.taken, (o _ (by omega)).trans h.sb.last, hok⟩, (o _ (by omega)).trans h.hl, (o _ (by omega)).trans h.hd, (o _ (by omega)).trans h.pb⟩
  · have := (World.ownsRow.lt a2 g hg).1; omega
  · have := (World.ownsRow.lt ho g hg).1; omega

/-- A record more is told. -/
theorem SY.app {W1 : World} {v' : Value} {x : List Nat} (h : SY N R w i s rb mk nm v3 W) (hNR : N + 6 ≤ R) (hk : Kept (N + 6) 9 W W1) (ho : OwnT W1 (N + 6) v' (s.l.map strN ++ [strN x])) (hok : RdOk i { s with l := s.l ++ [x] }) :
    SY N R w i { s with l := s.l ++ [x] } rb mk nm v3 (W1.setCell ⟨N, 0, none⟩ v') := by
  obtain ⟨k1, k2, k3, k4, k5⟩ := h.kept hNR (by decide) hk
  obtain ⟨v, a1, a2⟩ := h.sb.l
  obtain ⟨u, b1, b2⟩ := h.sb.r
  have o : ∀ k, k ≠ N → (W1.setCell ⟨N, 0, none⟩ v').heap[k]? = W1.heap[k]? := fun k hk => heap_setCell_other W1 ⟨N, 0, none⟩ k v' hk
  have b3 : OwnI W1 (N + 6) 5 .u8 u s.text := own_kept b2 (by decide) hk
  refine ⟨⟨k1.setCell (p := ⟨N, 0, none⟩) (Nat.le_refl _) v', ⟨v', ?_, ?_⟩, ⟨u, (o _ (by omega)).trans ((k5 _ (by omega)).trans b1), OwnI.stays b3 fun g hg => o g ?_⟩, (o _ (by omega)).trans ((k5 _ (by omega)).trans h.sb.taken), (o _ (by omega)).trans ((k5 _ (by omega)).trans h.sb.last), hok⟩, (o _ (by omega)).trans k2, (o _ (by omega)).trans k3, (o _ (by omega)).trans k4⟩
  · simpa using heap_setCell_same W1 N 0 _ _ v' ((k5 _ (by omega)).trans a1)
  · rw [List.map_append]
    exact ho.stays fun g hg => o g (by have := (World.ownsRow.lt ho g hg).1; omega)
  · have := (World.ownsRow.lt b3 g hg).1; omega
end

end Go.Proofs.YtkhghkklekjdaaaDoor.journal
