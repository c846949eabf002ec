/- count, from, Prepare. -/
import Derived.Test.YtmdipcemhaomhaaRows
import Derived.Test.YtmdipcemhaomhaaAccFit
namespace Go.Proofs.Ytmdipcemhaomhaa.crush
open Go.RowKit
open Go.Proofs.Ytmdipcemhaomhaa.kit Go.Proofs.Ytmdipcemhaomhaa.own
set_option linter.unusedVariables false
set_option linter.unusedSimpArgs false

set_option maxHeartbeats 8000000 in
theorem count_any (v : Value) (a : AccV) (w : World) (h : AccR w v a) : Calls Try.prog 49 #[v] w fun e w' => e = .returned (.int .i64 (a.com.length : Int)) ∧ Below w.heap.size w w' := by
  obtain ⟨s, rfl, hs⟩ := h
  obtain ⟨x, y, rfl⟩ := hs.slice
  have HB := Lib.hid (below_new w (.cells #[.int .i64 a.pr, .int .i64 a.pm, .bool a.has, .int .i64 a.ar, .int .i64 a.am, .string a.val, .slice x a.com.length y] 26))
  unfold AccV.agg
  clear hs
  go_enter Try.func49, Try.ntmps49
  go_wp2
  go_ret
  exact ⟨rfl, HB.out⟩

theorem two_at (w : World) (o1 o2 : Obj) : ((w.alloc o1).alloc o2).heap[w.heap.size]? = some o1 ∧ ((w.alloc o1).alloc o2).heap[w.heap.size + 1]? = some o2 := by
  refine ⟨((below_new (w.alloc o1) o2).block _ (by simp)).trans (alloc_at w o1), ?_⟩
  have := alloc_at (w.alloc o1) o2
  rw [World.size_alloc] at this
  exact this
theorem three_at (w : World) (o1 o2 o3 : Obj) : (((w.alloc o1).alloc o2).alloc o3).heap[w.heap.size]? = some o1 ∧ (((w.alloc o1).alloc o2).alloc o3).heap[w.heap.size + 1]? = some o2 ∧ (((w.alloc o1).alloc o2).alloc o3).heap[w.heap.size + 1 + 1]? = some o3 := by
  have h := two_at w o1 o2
  refine ⟨((below_new _ o3).block _ (by simp; omega)).trans h.1, ((below_new _ o3).block _ (by simp)).trans h.2, ?_⟩
  have := alloc_at ((w.alloc o1).alloc o2) o3
  rw [World.size_alloc, World.size_alloc] at this
  exact this
/-- What 'from' hands back: the iterator with its two boxes. -/
def FromS (w : World) (v : Value) (f : Int) (e : Ending) (w' : World) : Prop := ∃ bl bf, e = .returned (.func (.func 60) #[] #[.pointer (some ⟨bf, 0, none⟩), .pointer (some ⟨bl, 0, none⟩)]) ∧ Box w' bf 2 (.int .i64 f) ∧ Box w' bl 24 v ∧ w.heap.size ≤ bf ∧ w.heap.size ≤ bl ∧ Below w.heap.size w w'
set_option maxHeartbeats 8000000 in
theorem from_any (a : Option Addr) (n c : Nat) (f : Int) (w : World) : Calls Try.prog 50 #[.slice a n c, .int .i64 f] w (FromS w (.slice a n c) f) := by
  have HB := Lib.hid ((below_new w (.cells #[.slice a n c] 24)).alloc (by simp) (.cells #[.int .i64 f] 2))
  have HC := Lib.hid (two_at w (.cells #[.slice a n c] 24) (.cells #[.int .i64 f] 2))
  go_enter Try.func50, Try.ntmps50
  go_wp2
  go_ret
  exact ⟨_, _, rfl, HC.out.2, HC.out.1, Nat.le_succ _, Nat.le_refl _, HB.out⟩

/-- Three boxes: the acceptor's, the ballot's, the result's. -/
structure Three (w : World) (N : Nat) (pr pm : Int) (has : Bool) (ar am : Int) (val : ByteArray) (s : Value) (r m : Int) (W : World) : Prop where
  hN : N = w.heap.size
  bel : Below w.heap.size w W
  one : ABox W N pr pm has ar am val s
  bal : W.heap[N + 1]? = some (.cells #[.int .i64 r, .int .i64 m] 23 (0, 0))
  two : ABox W (N + 1 + 1) 0 0 false 0 0 { data := #[] } (.slice none 0 0)
section
variable {w : World} {N : Nat} {pr pm : Int} {has : Bool} {ar am : Int} {val : ByteArray} {s : Value} {r m : Int} {W W' : World}
theorem Three.keep (h : Three w N pr pm has ar am val s r m W) (hb : Below W.heap.size W W') : Three w N pr pm has ar am val s r m W' :=
  ⟨h.hN, h.bel.trans (hb.mono h.bel.size), h.one.keep hb, (hb.block _ (Array.getElem?_eq_some_iff.1 h.bal).1).trans h.bal, h.two.keep hb⟩
theorem Three.balc (h : Three w N pr pm has ar am val s r m W) : W.cell? ⟨N + 1, 0, none⟩ = some (.int .i64 r) ∧ W.cell? ⟨N + 1, 1, none⟩ = some (.int .i64 m) := by
  have := h.bal
  constructor <;> simp [World.cell?, this]
theorem Three.put (h : Three w N pr pm has ar am val s r m W) (pr' pm' : Int) (has' : Bool) (ar' am' : Int) (val' : ByteArray) (s' : Value) : Three w N pr' pm' has' ar' am' val' s' r m (W.setCells N 0 [.int .i64 pr', .int .i64 pm', .bool has', .int .i64 ar', .int .i64 am', .string val', s']) :=
  ⟨h.hN, Below.setCells h.bel (Nat.le_of_eq h.hN.symm) 0 _, h.one.put _ _ _ _ _ _ _, (heap_setCells_other N _ 0 W _ (by omega)).trans h.bal, (heap_setCells_other N _ 0 W _ (by omega)).trans h.two⟩
theorem Three.promise (h : Three w N pr pm has ar am val s r m W) (pr' pm' : Int) : Three w N pr' pm' has ar am val s r m (W.setCells N 0 [.int .i64 pr', .int .i64 pm']) :=
  ⟨h.hN, Below.setCells h.bel (Nat.le_of_eq h.hN.symm) 0 _, h.one.promise _ _, (heap_setCells_other N _ 0 W _ (by omega)).trans h.bal, (heap_setCells_other N _ 0 W _ (by omega)).trans h.two⟩
end
theorem three_new (w : World) (pr pm : Int) (has : Bool) (ar am : Int) (val : ByteArray) (s : Value) (r m : Int) : Three w w.heap.size pr pm has ar am val s r m (((w.alloc (.cells #[.int .i64 pr, .int .i64 pm, .bool has, .int .i64 ar, .int .i64 am, .string val, s] 26)).alloc (.cells #[.int .i64 r, .int .i64 m] 23)).alloc (.cells #[.int .i64 0, .int .i64 0, .bool false, .int .i64 0, .int .i64 0, .string { data := #[] }, .slice none 0 0] 26)) := by
  have h := three_at w (.cells #[.int .i64 pr, .int .i64 pm, .bool has, .int .i64 ar, .int .i64 am, .string val, s] 26) (.cells #[.int .i64 r, .int .i64 m] 23) (.cells #[.int .i64 0, .int .i64 0, .bool false, .int .i64 0, .int .i64 0, .string { data := #[] }, .slice none 0 0] 26)
  exact ⟨rfl, ((below_new w _).alloc (by simp) _).alloc (by simp; omega) _, h.1, h.2.1, h.2.2⟩
theorem bal_one (r m : Int) : (#[Value.int .i64 r, .int .i64 m] : Array Value).all (·.oneCell') = true := by simp [Value.oneCell']
theorem there_two {W : World} {N : Nat} (h : W.there N 0 7) : W.there N 0 2 := fun j hj => h j (by omega)

def PrepS (w : World) (a : AccV) (b : BalV) (e : Ending) (w' : World) : Prop := ∃ s, e = .returned (.tuple #[(prepE a b).agg s, .bool (prepOk a b)]) ∧ Own tx 1 9 w' w.heap.size s a.com ∧ Below w.heap.size w w'
set_option maxHeartbeats 8000000 in
set_option maxRecDepth 100000 in
theorem Prepare_any (v : Value) (a : AccV) (b : BalV) (w : World) (h : AccR w v a) (hl : a.com.length * 16 ≤ 140737488355328) : Calls Try.prog 10 #[v, b.val] w (PrepS w a b) := by
  have HCo := Lib.hid (fun u (hu : Below w.heap.size w u) => copied_any v a u (h.keep hu) hl)
  obtain ⟨s, rfl, hs⟩ := h
  obtain ⟨r, m⟩ := b
  obtain ⟨x, y, rfl⟩ := hs.slice
  have HX := Lib.hid (three_new w a.pr a.pm a.has a.ar a.am a.val (.slice x a.com.length y) r m)
  have HP := Lib.hid (fun u => proper_any r m u)
  have HL := Lib.hid (fun u => Later_any a.pr a.pm r m u)
  obtain ⟨q1, hq1⟩ : ∃ q, okBal r m = q := ⟨_, rfl⟩
  obtain ⟨q2, hq2⟩ : ∃ q, laterB a.pr a.pm r m = q := ⟨_, rfl⟩
  have hpo : prepOk a ⟨r, m⟩ = (q1 && !q2) := by unfold prepOk; simp only [hq1, hq2]
  have hpe : prepE a ⟨r, m⟩ = if (q1 && !q2) then { a with pr := r, pm := m } else a := by unfold prepE; rw [hpo]
  have HE : Hid (∀ e w', (∃ s, e = Ending.returned (.tuple #[(if (q1 && !q2) then ({ a with pr := r, pm := m } : AccV) else a).agg s, .bool (q1 && !q2)]) ∧ Own tx 1 9 w' w.heap.size s a.com ∧ Below w.heap.size w w') → PrepS w a ⟨r, m⟩ e w') := Lib.hid (fun e w' h => by unfold PrepS; rw [hpe, hpo]; exact h)
  rw [hq1] at HP; rw [hq2] at HL
  clear hs hl hq1 hq2 hpo hpe
  unfold AccS at HCo
  obtain ⟨pr, pm, has, ar, am, val, com⟩ := a
  unfold AccV.agg at HCo HE ⊢
  unfold BalV.val
  simp only at HCo HE HX HL ⊢
  obtain ⟨L, hL⟩ : ∃ L, com.length = L := ⟨_, rfl⟩
  have HLn := Lib.hid hL
  rw [hL] at HX HCo ⊢
  clear hL
  refine (?_ : Calls _ _ _ _ _).mono (fun e w' h => HE.out e w' h)
  clear HE
  go_enter Try.func10, Try.ntmps10
  go_upto_region 1 with fail
  generalize (((w.alloc (.cells #[.int .i64 pr, .int .i64 pm, .bool has, .int .i64 ar, .int .i64 am, .string val, .slice x L y] 26)).alloc (.cells #[.int .i64 r, .int .i64 m] 23)).alloc (.cells #[.int .i64 0, .int .i64 0, .bool false, .int .i64 0, .int .i64 0, .string { data := #[] }, .slice none 0 0] 26)) = W at HX ⊢
  obtain ⟨c0, c1, c2, c3, c4, c5, c6⟩ := HX.out.one.cells
  go_upto_region 2 with (first
    | (go_at_call 45; refine (HCo.out _ HX.out.bel).mono ?_; rintro e w5 ⟨v5, rfl, ho, hb⟩; obtain ⟨x5, y5, rfl⟩ := ho.slice; rw [HLn.out] at ho ⊢; have HX5 := Lib.hid (HX.out.keep hb); have HO5 := Lib.hid (ho.mono (show w.heap.size + 1 + 1 + 1 ≤ _ from HX.out.two.lt)); clear ho hb c0 c1 c2 c3 c4 c5 c6)
    | (refine wpList_store_mid rfl 26 _ _ rfl w.heap.size 0 #[.int .i64 pr, .int .i64 pm, .bool has, .int .i64 ar, .int .i64 am, .string val, .slice x5 L y5] rfl rfl HX5.out.one.there sizeAcc (acc_one _ _ _ _ _ _ _ _ _) ?_))
  have HX6 := Lib.hid (HX5.out.put pr pm has ar am val (.slice x5 L y5))
  have HO6 := Lib.hid (Own.farC (N := w.heap.size) (by omega) [.int .i64 pr, .int .i64 pm, .bool has, .int .i64 ar, .int .i64 am, .string val, .slice x5 L y5] 0 HO5.out)
  generalize w5.setCells w.heap.size 0 _ = W6 at HX6 HO6 ⊢
  obtain ⟨c0, c1, c2, c3, c4, c5, c6⟩ := HX6.out.one.cells
  obtain ⟨b0, b1⟩ := HX6.out.balc
  cases q1 with
  | false =>
    go_wp2_with (first
      | (go_at_call 46; refine (HP.out _).mono ?_; rintro e w7 ⟨rfl, hb⟩; have HX7 := Lib.hid (HX6.out.keep hb); have HO7 := Lib.hid (HO6.out.below hb); clear hb c0 c1 c2 c3 c4 c5 c6 b0 b1; obtain ⟨c0, c1, c2, c3, c4, c5, c6⟩ := HX7.out.one.cells)
      | (refine wpList_store_mid rfl 26 _ _ rfl (w.heap.size + 1 + 1) 0 #[.int .i64 pr, .int .i64 pm, .bool has, .int .i64 ar, .int .i64 am, .string val, .slice x5 L y5] rfl rfl HX7.out.two.there sizeAcc (acc_one _ _ _ _ _ _ _ _ _) ?_))
    refine bodyPost_ret (ret_cell_tmp rfl rfl (HX7.out.two.put pr pm has ar am val (.slice x5 L y5)).range Try.underlying26 rfl sizeAcc) rfl ?_
    exact ⟨_, rfl, (Own.farC (N := w.heap.size + 1 + 1) (by omega) _ _ HO7.out).mono (by omega), Below.setCells HX7.out.bel (b := w.heap.size + 1 + 1) (by omega) 0 _⟩
  | true =>
    cases q2 with
    | true =>
      go_wp2_with (first
        | (go_at_call 46; refine (HP.out _).mono ?_; rintro e w7 ⟨rfl, hb⟩; have HX7 := Lib.hid (HX6.out.keep hb); have HO7 := Lib.hid (HO6.out.below hb); clear hb c0 c1 c2 c3 c4 c5 c6 b0 b1; obtain ⟨c0, c1, c2, c3, c4, c5, c6⟩ := HX7.out.one.cells; obtain ⟨b0, b1⟩ := HX7.out.balc)
        | (go_at_call 47; refine (HL.out _).mono ?_; rintro e w8 ⟨rfl, hb⟩; have HX8 := Lib.hid (HX7.out.keep hb); have HO8 := Lib.hid (HO7.out.below hb); clear hb c0 c1 c2 c3 c4 c5 c6 b0 b1; obtain ⟨c0, c1, c2, c3, c4, c5, c6⟩ := HX8.out.one.cells)
        | (refine wpList_store_mid rfl 26 _ _ rfl (w.heap.size + 1 + 1) 0 #[.int .i64 pr, .int .i64 pm, .bool has, .int .i64 ar, .int .i64 am, .string val, .slice x5 L y5] rfl rfl HX8.out.two.there sizeAcc (acc_one _ _ _ _ _ _ _ _ _) ?_))
      refine bodyPost_ret (ret_cell_tmp rfl rfl (HX8.out.two.put pr pm has ar am val (.slice x5 L y5)).range Try.underlying26 rfl sizeAcc) rfl ?_
      exact ⟨_, rfl, (Own.farC (N := w.heap.size + 1 + 1) (by omega) _ _ HO8.out).mono (by omega), Below.setCells HX8.out.bel (b := w.heap.size + 1 + 1) (by omega) 0 _⟩
    | false =>
      go_upto_region 4 with (first
        | (go_at_call 46; refine (HP.out _).mono ?_; rintro e w7 ⟨rfl, hb⟩; have HX7 := Lib.hid (HX6.out.keep hb); have HO7 := Lib.hid (HO6.out.below hb); clear hb c0 c1 c2 c3 c4 c5 c6 b0 b1; obtain ⟨c0, c1, c2, c3, c4, c5, c6⟩ := HX7.out.one.cells; obtain ⟨b0, b1⟩ := HX7.out.balc)
        | (go_at_call 47; refine (HL.out _).mono ?_; rintro e w8 ⟨rfl, hb⟩; have HX8 := Lib.hid (HX7.out.keep hb); have HO8 := Lib.hid (HO7.out.below hb); clear hb c0 c1 c2 c3 c4 c5 c6 b0 b1; obtain ⟨b0, b1⟩ := HX8.out.balc))
      go_upto_region 5 with (refine wpList_store_mid rfl 23 _ _ rfl w.heap.size 0 #[.int .i64 r, .int .i64 m] rfl rfl (there_two HX8.out.one.there) sizeBal (bal_one _ _) ?_)
      have HX9 := Lib.hid (HX8.out.promise r m)
      have HO9 := Lib.hid (Own.farC (N := w.heap.size) (by omega) [.int .i64 r, .int .i64 m] 0 HO8.out)
      clear b0 b1
      generalize w8.setCells w.heap.size 0 _ = W9 at HX9 HO9 ⊢
      obtain ⟨c0, c1, c2, c3, c4, c5, c6⟩ := HX9.out.one.cells
      go_wp2_with (refine wpList_store_mid rfl 26 _ _ rfl (w.heap.size + 1 + 1) 0 #[.int .i64 r, .int .i64 m, .bool has, .int .i64 ar, .int .i64 am, .string val, .slice x5 L y5] rfl rfl HX9.out.two.there sizeAcc (acc_one _ _ _ _ _ _ _ _ _) ?_)
      refine bodyPost_ret (ret_cell_tmp rfl rfl (HX9.out.two.put r m has ar am val (.slice x5 L y5)).range Try.underlying26 rfl sizeAcc) rfl ?_
      exact ⟨_, rfl, (Own.farC (N := w.heap.size + 1 + 1) (by omega) _ _ HO9.out).mono (by omega), Below.setCells HX9.out.bel (b := w.heap.size + 1 + 1) (by omega) 0 _⟩
end Go.Proofs.Ytmdipcemhaomhaa.crush
