/- The box of an acceptor; copied, count, Prepare. -/
import Derived.Test.YtmdipcemhaomhaaRows
import Derived.Test.YtmdipcemhaomhaaAccLow
namespace Go.Proofs.Ytmdipcemhaomhaa.crush
open Go.RowKit
open Go.Proofs.Ytmdipcemhaomhaa.kit Go.Proofs.Ytmdipcemhaomhaa.own
set_option linter.unusedVariables false
set_option linter.unusedSimpArgs false

theorem cellsR {w : World} {N : Nat} {l : List Value} {T : TypeId} {fz : Nat × Nat} (h : w.heap[N]? = some (.cells l.toArray T fz)) : w.rangeAt N 0 l := fun j v hv => by
  simp only [World.cell?, h, Nat.zero_add]
  simpa using hv
/-- The box of an acceptor. -/
def ABox (W : World) (N : Nat) (pr pm : Int) (has : Bool) (ar am : Int) (val : ByteArray) (s : Value) : Prop := W.heap[N]? = some (.cells #[.int .i64 pr, .int .i64 pm, .bool has, .int .i64 ar, .int .i64 am, .string val, s] 26 (0, 0))
section
variable {W W' : World} {N : Nat} {pr pm : Int} {has : Bool} {ar am : Int} {val : ByteArray} {s : Value}
theorem ABox.lt (h : ABox W N pr pm has ar am val s) : N < W.heap.size := (Array.getElem?_eq_some_iff.1 h).1
theorem ABox.keep (h : ABox W N pr pm has ar am val s) (hb : Below W.heap.size W W') : ABox W' N pr pm has ar am val s := (hb.block N h.lt).trans h
theorem ABox.cells (h : ABox W N pr pm has ar am val s) : W.cell? ⟨N, 0, none⟩ = some (.int .i64 pr) ∧ W.cell? ⟨N, 1, none⟩ = some (.int .i64 pm) ∧ W.cell? ⟨N, 2, none⟩ = some (.bool has) ∧ W.cell? ⟨N, 3, none⟩ = some (.int .i64 ar) ∧ W.cell? ⟨N, 4, none⟩ = some (.int .i64 am) ∧ W.cell? ⟨N, 5, none⟩ = some (.string val) ∧ W.cell? ⟨N, 6, none⟩ = some s := by
  unfold ABox at h
  refine ⟨?_, ?_, ?_, ?_, ?_, ?_, ?_⟩ <;> simp [World.cell?, h]
theorem ABox.thaw (h : ABox W N pr pm has ar am val s) (j : Nat) : W.frozen? ⟨N, j, none⟩ = false := by
  unfold ABox at h
  simp [World.frozen?, h]
theorem abox_new (w : World) (pr pm : Int) (has : Bool) (ar am : Int) (val : ByteArray) (s : Value) : ABox (w.alloc (.cells #[.int .i64 pr, .int .i64 pm, .bool has, .int .i64 ar, .int .i64 am, .string val, s] 26)) w.heap.size pr pm has ar am val s := alloc_at w _
theorem ABox.there (h : ABox W N pr pm has ar am val s) : W.there N 0 7 := by
  unfold ABox at h
  intro j hj
  match j, hj with
  | 0, _ => simp [World.cell?, World.frozen?, h]
  | 1, _ => simp [World.cell?, World.frozen?, h]
  | 2, _ => simp [World.cell?, World.frozen?, h]
  | 3, _ => simp [World.cell?, World.frozen?, h]
  | 4, _ => simp [World.cell?, World.frozen?, h]
  | 5, _ => simp [World.cell?, World.frozen?, h]
  | 6, _ => simp [World.cell?, World.frozen?, h]
theorem ABox.put (h : ABox W N pr pm has ar am val s) (pr' pm' : Int) (has' : Bool) (ar' am' : Int) (val' : ByteArray) (s' : Value) : ABox (W.setCells N 0 [.int .i64 pr', .int .i64 pm', .bool has', .int .i64 ar', .int .i64 am', .string val', s']) N pr' pm' has' ar' am' val' s' := heap_setCells N 26 [.int .i64 pr', .int .i64 pm', .bool has', .int .i64 ar', .int .i64 am', .string val', s'] 0 W _ h
theorem ABox.range (h : ABox W N pr pm has ar am val s) : W.rangeAt N 0 [.int .i64 pr, .int .i64 pm, .bool has, .int .i64 ar, .int .i64 am, .string val, s] := cellsR (l := [.int .i64 pr, .int .i64 pm, .bool has, .int .i64 ar, .int .i64 am, .string val, s]) h
theorem ABox.promise (h : ABox W N pr pm has ar am val s) (pr' pm' : Int) : ABox (W.setCells N 0 [.int .i64 pr', .int .i64 pm']) N pr' pm' has ar am val s := heap_setCells N 26 [.int .i64 pr', .int .i64 pm'] 0 W _ h
theorem ABox.row (h : ABox W N pr pm has ar am val s) (s' : Value) : ABox (W.setCell ⟨N, 6, none⟩ s') N pr pm has ar am val s' := heap_setCells N 26 [s'] 6 W _ h
end
theorem sizeAcc : (Try.prog.info? 26).map (·.size) = some 7 := by kernel_rfl
theorem sizeBal : (Try.prog.info? 23).map (·.size) = some 2 := by kernel_rfl
theorem acc_one (pr pm : Int) (has : Bool) (ar am : Int) (val : ByteArray) (a : Option Addr) (n c : Nat) : (#[Value.int .i64 pr, .int .i64 pm, .bool has, .int .i64 ar, .int .i64 am, .string val, .slice a n c] : Array Value).all (·.oneCell') = true := by simp [Value.oneCell']

/-- Two boxes: the argument's, and the result's behind it. -/
structure Two (w : World) (N : Nat) (pr pm : Int) (has : Bool) (ar am : Int) (val : ByteArray) (s : Value) (W : World) : Prop where
  hN : N = w.heap.size
  bel : Below w.heap.size w W
  one : ABox W N pr pm has ar am val s
  two : ABox W (N + 1) 0 0 false 0 0 { data := #[] } (.slice none 0 0)
theorem Two.keep {w : World} {N : Nat} {pr pm : Int} {has : Bool} {ar am : Int} {val : ByteArray} {s : Value} {W W' : World} (h : Two w N pr pm has ar am val s W) (hb : Below W.heap.size W W') : Two w N pr pm has ar am val s W' :=
  ⟨h.hN, h.bel.trans (hb.mono h.bel.size), h.one.keep hb, h.two.keep hb⟩
theorem two_new (w : World) (pr pm : Int) (has : Bool) (ar am : Int) (val : ByteArray) (s : Value) : Two w w.heap.size pr pm has ar am val s ((w.alloc (.cells #[.int .i64 pr, .int .i64 pm, .bool has, .int .i64 ar, .int .i64 am, .string val, s] 26)).alloc (.cells #[.int .i64 0, .int .i64 0, .bool false, .int .i64 0, .int .i64 0, .string { data := #[] }, .slice none 0 0] 26)) := by
  have h1 := below_new w (.cells #[.int .i64 pr, .int .i64 pm, .bool has, .int .i64 ar, .int .i64 am, .string val, s] 26)
  have h2 := abox_new w pr pm has ar am val s
  have h3 := below_new (w.alloc (.cells #[.int .i64 pr, .int .i64 pm, .bool has, .int .i64 ar, .int .i64 am, .string val, s] 26)) (.cells #[.int .i64 0, .int .i64 0, .bool false, .int .i64 0, .int .i64 0, .string { data := #[] }, .slice none 0 0] 26)
  refine ⟨rfl, h1.trans (h3.mono h1.size), h2.keep h3, ?_⟩
  have := abox_new (w.alloc (.cells #[.int .i64 pr, .int .i64 pm, .bool has, .int .i64 ar, .int .i64 am, .string val, s] 26)) 0 0 false 0 0 { data := #[] } (.slice none 0 0)
  rw [World.size_alloc] at this
  exact this
/-- Behind a store into the argument's box. -/
theorem Two.row {w : World} {N : Nat} {pr pm : Int} {has : Bool} {ar am : Int} {val : ByteArray} {s : Value} {W : World} (h : Two w N pr pm has ar am val s W) (s' : Value) : Two w N pr pm has ar am val s' (W.setCell ⟨N, 6, none⟩ s') :=
  ⟨h.hN, h.bel.setCell (p := ⟨N, 6, none⟩) (Nat.le_of_eq h.hN.symm) _, h.one.row s', (heap_setCell_other _ _ _ _ (by show N + 1 ≠ N; omega)).trans h.two⟩
theorem Own.far6 {α : Type} {enc : α → List Value} {k e B : Nat} {W : World} {v : Value} {xs : List α} (h : Own enc k e W B v xs) {N : Nat} (hN : N < B) (o : Nat) (u : Value) : Own enc k e (W.setCell ⟨N, o, none⟩ u) B v xs :=
  h.setOther (fun e => by have := (h.blk N e).1; omega) o u
theorem Own.farC {α : Type} {enc : α → List Value} {k e B : Nat} {v : Value} {xs : List α} {N : Nat} (hN : N < B) : ∀ (vs : List Value) (o : Nat) {W : World} (h : Own enc k e W B v xs), Own enc k e (W.setCells N o vs) B v xs
  | [], _, _, h => h
  | v :: vs, o, _, h => Own.farC hN vs (o + 1) (h.far6 hN o v)

set_option maxHeartbeats 8000000 in
set_option maxRecDepth 100000 in
theorem copied_any (v : Value) (a : AccV) (w : World) (h : AccR w v a) (hl : a.com.length * 16 ≤ 140737488355328) : Calls Try.prog 45 #[v] w (AccS w a) := by
  obtain ⟨s, rfl, hs⟩ := h
  obtain ⟨pr, pm, has, ar, am, val, com⟩ := a
  simp only at hs hl
  obtain ⟨x, y, rfl⟩ := hs.slice
  have HX := Lib.hid (two_new w pr pm has ar am val (.slice x com.length y))
  have HC := Lib.hid (fun u hu => cloneT _ com u (hs.keep hu) hl)
  unfold AccV.agg
  simp only
  clear hs hl
  unfold AccS AccV.agg
  simp only
  obtain ⟨L, hL⟩ : ∃ L, com.length = L := ⟨_, rfl⟩
  have HL := Lib.hid hL
  rw [hL] at HX HC ⊢
  clear hL
  go_enter Try.func45, Try.ntmps45
  go_upto_region 1 with fail
  generalize ((w.alloc (.cells #[.int .i64 pr, .int .i64 pm, .bool has, .int .i64 ar, .int .i64 am, .string val, .slice x L y] 26)).alloc (.cells #[.int .i64 0, .int .i64 0, .bool false, .int .i64 0, .int .i64 0, .string { data := #[] }, .slice none 0 0] 26)) = W at HX ⊢
  obtain ⟨c0, c1, c2, c3, c4, c5, c6⟩ := HX.out.one.cells
  go_upto_region 2 with (go_at_call 59; refine (HC.out _ HX.out.bel).mono ?_; rintro e w5 ⟨v5, rfl, ho, hb⟩; obtain ⟨x5, y5, rfl⟩ := ho.slice; rw [HL.out] at ho ⊢; have HX5 := Lib.hid (HX.out.keep hb); have HO5 := Lib.hid (ho.mono (show w.heap.size + 1 + 1 ≤ _ from HX.out.two.lt)); have d6 := HX5.out.one.cells.2.2.2.2.2.2; have f6 := HX5.out.one.thaw 6; clear ho hb c0 c1 c2 c3 c4 c5 c6)
  have HX6 := Lib.hid (HX5.out.row (.slice x5 L y5))
  have HO6 := Lib.hid (HO5.out.far6 (N := w.heap.size) (by omega) 6 (.slice x5 L y5))
  clear d6 f6
  generalize w5.setCell ⟨w.heap.size, 6, none⟩ (.slice x5 L y5) = W6 at HX6 HO6 ⊢
  obtain ⟨c0, c1, c2, c3, c4, c5, c6⟩ := HX6.out.one.cells
  go_wp2_with (refine wpList_store_mid rfl 26 _ _ rfl (w.heap.size + 1) 0 #[.int .i64 pr, .int .i64 pm, .bool has, .int .i64 ar, .int .i64 am, .string val, .slice x5 L y5] rfl rfl HX6.out.two.there sizeAcc (acc_one _ _ _ _ _ _ _ _ _) ?_)
  refine bodyPost_ret (ret_cell rfl rfl (HX6.out.two.put pr pm has ar am val (.slice x5 L y5)).range Try.underlying26 rfl sizeAcc) rfl ?_
  exact ⟨_, rfl, (Own.farC (N := w.heap.size + 1) (by omega) _ _ HO6.out).mono (by omega), Below.setCells HX6.out.bel (b := w.heap.size + 1) (by omega) 0 _⟩
end Go.Proofs.Ytmdipcemhaomhaa.crush
