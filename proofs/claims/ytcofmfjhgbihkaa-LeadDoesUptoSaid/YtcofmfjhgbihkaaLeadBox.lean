/- The box of a leader; copied. -/
import Derived.Test.YtcofmfjhgbihkaaRows
import Derived.Test.YtcofmfjhgbihkaaLeadClone
import Derived.Deep.RegionHeld3
namespace Go.Proofs.Ytcofmfjhgbihkaa.crush
open Go.RowKit
open Go.Proofs.Ytcofmfjhgbihkaa.kit Go.Proofs.Ytcofmfjhgbihkaa.own
set_option linter.unusedVariables false
set_option linter.unusedSimpArgs false

theorem cellsL {w : World} {N : Nat} {l : List Value} {T : TypeId} {fz : Nat × Nat} (h : w.heap[N]? = some (.cells l.toArray T fz)) : w.rangeAt N 0 l := fun j v hv => by
  simp only [World.cell?, h, Nat.zero_add]
  simpa using hv
/-- The box of a leader. -/
def LBox (W : World) (N : Nat) (st r m : Int) (s : Value) (has : Bool) (val : ByteArray) (t : Value) : Prop := W.heap[N]? = some (.cells #[.int .i64 st, .int .i64 r, .int .i64 m, s, .bool has, .string val, t] 27 (0, 0))
section
variable {W W' : World} {N : Nat} {st r m : Int} {has : Bool} {val : ByteArray} {s t : Value}
theorem LBox.lt (h : LBox W N st r m s has val t) : N < W.heap.size := (Array.getElem?_eq_some_iff.1 h).1
theorem LBox.keep (h : LBox W N st r m s has val t) (hb : Below W.heap.size W W') : LBox W' N st r m s has val t := (hb.block N h.lt).trans h
theorem LBox.cells (h : LBox W N st r m s has val t) : W.cell? ⟨N, 0, none⟩ = some (.int .i64 st) ∧ W.cell? ⟨N, 1, none⟩ = some (.int .i64 r) ∧ W.cell? ⟨N, 2, none⟩ = some (.int .i64 m) ∧ W.cell? ⟨N, 3, none⟩ = some s ∧ W.cell? ⟨N, 4, none⟩ = some (.bool has) ∧ W.cell? ⟨N, 5, none⟩ = some (.string val) ∧ W.cell? ⟨N, 6, none⟩ = some t := by
  unfold LBox at h
  refine ⟨?_, ?_, ?_, ?_, ?_, ?_, ?_⟩ <;> simp [World.cell?, h]
theorem LBox.thaw (h : LBox W N st r m s has val t) (j : Nat) : W.frozen? ⟨N, j, none⟩ = false := by
  unfold LBox at h
  simp [World.frozen?, h]
theorem lbox_new (w : World) (st r m : Int) (s : Value) (has : Bool) (val : ByteArray) (t : Value) : LBox (w.alloc (.cells #[.int .i64 st, .int .i64 r, .int .i64 m, s, .bool has, .string val, t] 27)) w.heap.size st r m s has val t := alloc_at w _
theorem LBox.there (h : LBox W N st r m s has val t) : W.there N 0 7 := by
  unfold LBox at h
  intro j hj
  match j, hj with
  | 0, _ => simp [World.cell?, World.frozen?, h]
  | 1, _ => simp [World.cell?, World.frozen?, h]
  | 2, _ => simp [World.cell?, World.frozen?, h]
  | 3, _ => simp [World.cell?, World.frozen?, h]
  | 4, _ => simp [World.cell?, World.frozen?, h]
  | 5, _ => simp [World.cell?, World.frozen?, h]
  | 6, _ => simp [World.cell?, World.frozen?, h]
theorem LBox.put (h : LBox W N st r m s has val t) (st' r' m' : Int) (s' : Value) (has' : Bool) (val' : ByteArray) (t' : Value) : LBox (W.setCells N 0 [.int .i64 st', .int .i64 r', .int .i64 m', s', .bool has', .string val', t']) N st' r' m' s' has' val' t' := heap_setCells N 27 [.int .i64 st', .int .i64 r', .int .i64 m', s', .bool has', .string val', t'] 0 W _ h
theorem LBox.range (h : LBox W N st r m s has val t) : W.rangeAt N 0 [.int .i64 st, .int .i64 r, .int .i64 m, s, .bool has, .string val, t] := cellsL (l := [.int .i64 st, .int .i64 r, .int .i64 m, s, .bool has, .string val, t]) h
theorem LBox.set3 (h : LBox W N st r m s has val t) (s' : Value) : LBox (W.setCell ⟨N, 3, none⟩ s') N st r m s' has val t := heap_setCells N 27 [s'] 3 W _ h
theorem LBox.set4 (h : LBox W N st r m s has val t) (q : Bool) : LBox (W.setCell ⟨N, 4, none⟩ (.bool q)) N st r m s q val t := heap_setCells N 27 [.bool q] 4 W _ h
theorem LBox.set5 (h : LBox W N st r m s has val t) (q : ByteArray) : LBox (W.setCell ⟨N, 5, none⟩ (.string q)) N st r m s has q t := heap_setCells N 27 [.string q] 5 W _ h
theorem LBox.set6 (h : LBox W N st r m s has val t) (s' : Value) : LBox (W.setCell ⟨N, 6, none⟩ s') N st r m s has val s' := heap_setCells N 27 [s'] 6 W _ h
end
theorem sizeLead : (Try.prog.info? 27).map (·.size) = some 7 := by kernel_rfl
theorem lead_one (st r m : Int) (has : Bool) (val : ByteArray) (a a' : Option Addr) (n c n' c' : Nat) : (#[Value.int .i64 st, .int .i64 r, .int .i64 m, .slice a n c, .bool has, .string val, .slice a' n' c'] : Array Value).all (·.oneCell') = true := by simp [Value.oneCell']
theorem Own.far6L {α : Type} {enc : α → List Value} {k e B : Nat} {W : World} {v : Value} {xs : List α} (h : Own enc k e W B v xs) {N : Nat} (hN : N < B) (o : Nat) (u : Value) : Own enc k e (W.setCell ⟨N, o, none⟩ u) B v xs :=
  h.setOther (fun e => by have := (h.blk N e).1; omega) o u
theorem Own.farCL {α : Type} {enc : α → List Value} {k e B : Nat} {v : Value} {xs : List α} {N : Nat} (hN : N < B) : ∀ (vs : List Value) (o : Nat) {W : World} (h : Own enc k e W B v xs), Own enc k e (W.setCells N o vs) B v xs
  | [], _, _, h => h
  | v :: vs, o, _, h => Own.farCL hN vs (o + 1) (h.far6L hN o v)
theorem LdO.far6 {W : World} {B : Nat} {s t : Value} {l : LeadV} (h : LdO W B s t l) {N : Nat} (hN : N < B) (o : Nat) (u : Value) : LdO (W.setCell ⟨N, o, none⟩ u) B s t l := ⟨h.1.far6L hN o u, h.2.far6L hN o u⟩
theorem LdO.farC {W : World} {B : Nat} {s t : Value} {l : LeadV} (h : LdO W B s t l) {N : Nat} (hN : N < B) (vs : List Value) (o : Nat) : LdO (W.setCells N o vs) B s t l := ⟨Own.farCL hN vs o h.1, Own.farCL hN vs o h.2⟩
/-- Two boxes: the argument's, and the result's behind it. -/
structure LTwo (w : World) (N : Nat) (st r m : Int) (s : Value) (has : Bool) (val : ByteArray) (t : Value) (W : World) : Prop where
  hN : N = w.heap.size
  bel : Below w.heap.size w W
  one : LBox W N st r m s has val t
  two : LBox W (N + 1) 0 0 0 (.slice none 0 0) false { data := #[] } (.slice none 0 0)
section
variable {w : World} {N : Nat} {st r m : Int} {s : Value} {has : Bool} {val : ByteArray} {t : Value} {W W' : World}
theorem LTwo.keep (h : LTwo w N st r m s has val t W) (hb : Below W.heap.size W W') : LTwo w N st r m s has val t W' := ⟨h.hN, h.bel.trans (hb.mono h.bel.size), h.one.keep hb, h.two.keep hb⟩
theorem ltwo_new (w : World) (st r m : Int) (s : Value) (has : Bool) (val : ByteArray) (t : Value) : LTwo w w.heap.size st r m s has val t ((w.alloc (.cells #[.int .i64 st, .int .i64 r, .int .i64 m, s, .bool has, .string val, t] 27)).alloc (.cells #[.int .i64 0, .int .i64 0, .int .i64 0, .slice none 0 0, .bool false, .string { data := #[] }, .slice none 0 0] 27)) := by
  have h1 := below_new w (.cells #[.int .i64 st, .int .i64 r, .int .i64 m, s, .bool has, .string val, t] 27)
  have h2 := lbox_new w st r m s has val t
  have h3 := below_new (w.alloc (.cells #[.int .i64 st, .int .i64 r, .int .i64 m, s, .bool has, .string val, t] 27)) (.cells #[.int .i64 0, .int .i64 0, .int .i64 0, .slice none 0 0, .bool false, .string { data := #[] }, .slice none 0 0] 27)
  refine ⟨rfl, h1.trans (h3.mono h1.size), h2.keep h3, ?_⟩
  have := lbox_new (w.alloc (.cells #[.int .i64 st, .int .i64 r, .int .i64 m, s, .bool has, .string val, t] 27)) 0 0 0 (.slice none 0 0) false { data := #[] } (.slice none 0 0)
  rw [World.size_alloc] at this
  exact this
theorem LTwo.set3 (h : LTwo w N st r m s has val t W) (s' : Value) : LTwo w N st r m s' has val t (W.setCell ⟨N, 3, none⟩ s') :=
  ⟨h.hN, h.bel.setCell (p := ⟨N, 3, none⟩) (Nat.le_of_eq h.hN.symm) _, h.one.set3 s', (heap_setCell_other _ _ _ _ (by show N + 1 ≠ N; omega)).trans h.two⟩
theorem LTwo.set4 (h : LTwo w N st r m s has val t W) (q : Bool) : LTwo w N st r m s q val t (W.setCell ⟨N, 4, none⟩ (.bool q)) :=
  ⟨h.hN, h.bel.setCell (p := ⟨N, 4, none⟩) (Nat.le_of_eq h.hN.symm) _, h.one.set4 q, (heap_setCell_other _ _ _ _ (by show N + 1 ≠ N; omega)).trans h.two⟩
theorem LTwo.set5 (h : LTwo w N st r m s has val t W) (q : ByteArray) : LTwo w N st r m s has q t (W.setCell ⟨N, 5, none⟩ (.string q)) :=
  ⟨h.hN, h.bel.setCell (p := ⟨N, 5, none⟩) (Nat.le_of_eq h.hN.symm) _, h.one.set5 q, (heap_setCell_other _ _ _ _ (by show N + 1 ≠ N; omega)).trans h.two⟩
theorem LTwo.set6 (h : LTwo w N st r m s has val t W) (s' : Value) : LTwo w N st r m s has val s' (W.setCell ⟨N, 6, none⟩ s') :=
  ⟨h.hN, h.bel.setCell (p := ⟨N, 6, none⟩) (Nat.le_of_eq h.hN.symm) _, h.one.set6 s', (heap_setCell_other _ _ _ _ (by show N + 1 ≠ N; omega)).trans h.two⟩
/-- The argument's box, laid anew whole. -/
theorem LTwo.put (h : LTwo w N st r m s has val t W) (st' r' m' : Int) (s' : Value) (has' : Bool) (val' : ByteArray) (t' : Value) : LTwo w N st' r' m' s' has' val' t' (W.setCells N 0 [.int .i64 st', .int .i64 r', .int .i64 m', s', .bool has', .string val', t']) :=
  ⟨h.hN, Below.setCells h.bel (Nat.le_of_eq h.hN.symm) 0 _, h.one.put _ _ _ _ _ _ _, (heap_setCells_other N _ 0 W _ (by omega)).trans h.two⟩
end
/-- How long a leader's rows may be. -/
def LeadV.Small (l : LeadV) : Prop := l.ps.length ≤ 1100000 ∧ l.ak.length ≤ 1100000

set_option maxHeartbeats 8000000 in
set_option maxRecDepth 100000 in
theorem copiedL_any (v : Value) (l : LeadV) (w : World) (h : LdR w v l) (hl : l.Small) : Calls Try.prog 57 #[v] w (LdS w l) := by
  obtain ⟨s, t, rfl, hs, ht⟩ := h
  obtain ⟨hl1, hl2⟩ := hl
  have HC1 := Lib.hid (fun u (hu : Below w.heap.size w u) => cloneLP s l.ps u (hs.keep hu) (by omega))
  have HC2 := Lib.hid (fun u (hu : Below w.heap.size w u) => cloneLI t l.ak u (ht.keep hu) (by omega))
  obtain ⟨sa, sc, rfl⟩ := hs.slice
  obtain ⟨ta, tc, rfl⟩ := ht.slice
  have HX := Lib.hid (ltwo_new w l.st l.r l.m (.slice sa l.ps.length sc) l.has l.val (.slice ta l.ak.length tc))
  clear hs ht hl1 hl2
  unfold LdS LeadV.agg
  go_enter Try.func57, Try.ntmps57
  go_upto_region 1 with fail
  generalize ((w.alloc (.cells #[.int .i64 l.st, .int .i64 l.r, .int .i64 l.m, .slice sa l.ps.length sc, .bool l.has, .string l.val, .slice ta l.ak.length tc] 27)).alloc (.cells #[.int .i64 0, .int .i64 0, .int .i64 0, .slice none 0 0, .bool false, .string { data := #[] }, .slice none 0 0] 27)) = W at HX ⊢
  have HXd := Lib.hid (HX.out.keep (below_drew (Below.refl _ _)))
  obtain ⟨l0, l1, l2, l3, l4, l5, l6⟩ := HXd.out.one.cells
  --R1
  refine wp_region_held_drew (S := fun _ => True) (by kernel_rfl) (trivial) (fun hHeld => ?_)
  refine wpAnyH_take (i := 0) (oi := { dst := some 3, op := Op.fieldAddr 27 (Operand.tmp 1) 2, type := 0, pos := "row.go:22", after := #[], guard := none }) (v := ?_) rfl (by kernel_rfl) (by kernel_rfl) (by kernel_rfl) (fun _ _ _ h => h) (Or.inl ⟨by rfl, ?_⟩) hHeld ?_
  rotate_left 1
  · intro W hSw
    (try dsimp only at hSw)
    go_simp
    try with_reducible rfl
  try simp only [Act.put, List.setIfInBounds_toArray, List.set_cons_zero, List.set_cons_succ]
  refine wpAnyH_take (i := 3) (oi := { dst := some 6, op := Op.fieldAddr 27 (Operand.tmp 1) 5, type := 0, pos := "row.go:22", after := #[], guard := none }) (v := ?_) rfl (by kernel_rfl) (by kernel_rfl) (by kernel_rfl) (fun _ _ _ h => h) (Or.inl ⟨by rfl, ?_⟩) hHeld ?_
  rotate_left 1
  · intro W hSw
    (try dsimp only at hSw)
    go_simp
    try with_reducible rfl
  try simp only [Act.put, List.setIfInBounds_toArray, List.set_cons_zero, List.set_cons_succ]
  refine wpAnyH_ready (rs := [1, 4]) (by kernel_rfl) (by simp) ?_
  refine AllReadyH.cons (o := { dst := some 4, op := Op.load 24 (Operand.tmp 3), type := 24, pos := "row.go:22", after := #[{ on := 0, ground := Ground.data }], guard := none }) rfl (fun K7 hK7 => ?_) ?_
  · go_simp
    refine hK7.out _ _ (trivial) (fun hHeld => ?_)
    clear hK7 K7
    try simp only [Act.put, List.setIfInBounds_toArray, List.set_cons_zero, List.set_cons_succ]
    refine wpAnyH_ready (rs := [2, 4]) (by kernel_rfl) (by simp) ?_
    refine AllReadyH.cons (o := { dst := some 5, op := Op.call { callee := Callee.value (Operand.func 96), args := #[Operand.tmp 4], argTypes := #[24] }, type := 24, pos := "row.go:22", after := #[{ on := 1, ground := Ground.data }], guard := none }) rfl (fun K7 hK7 => ?_) ?_
    · go_simp
      refine (HC1.out _ HXd.out.bel).mono ?_
      rintro e w5 ⟨v5, rfl, ho, hb⟩
      obtain ⟨a5, c5, rfl⟩ := ho.slice
      have HX5 := Lib.hid (HXd.out.keep hb)
      have HO5 := Lib.hid (ho.mono (show w.heap.size + 1 + 1 ≤ _ from HXd.out.two.lt))
      obtain ⟨m0, m1, m2, m3, m4, m5, m6⟩ := HX5.out.one.cells
      clear hb ho
      try dsimp only
      refine hK7.out _ _ (trivial) (fun hHeld => ?_)
      clear hK7 K7
      try simp only [Act.put, List.setIfInBounds_toArray, List.set_cons_zero, List.set_cons_succ]
      refine wpAnyH_ready (rs := [4]) (by kernel_rfl) (by simp) ?_
      refine AllReadyH.cons (o := { dst := some 7, op := Op.load 25 (Operand.tmp 6), type := 25, pos := "row.go:22", after := #[{ on := 3, ground := Ground.data }], guard := none }) rfl (fun K7 hK7 => ?_) ?_
      · go_simp
        refine hK7.out _ _ (trivial) (fun hHeld => ?_)
        clear hK7 K7
        try simp only [Act.put, List.setIfInBounds_toArray, List.set_cons_zero, List.set_cons_succ]
        refine wpAnyH_take (i := 6) (oi := { dst := some 9, op := Op.fieldAddr 27 (Operand.tmp 1) 2, type := 0, pos := "row.go:22", after := #[{ on := 0, ground := Ground.phase }, { on := 1, ground := Ground.phase }, { on := 2, ground := Ground.phase }, { on := 3, ground := Ground.phase }, { on := 4, ground := Ground.phase }, { on := 5, ground := Ground.textOnly Departure.lateStoresUnsure }], guard := none }) (v := ?_) rfl (by kernel_rfl) (by kernel_rfl) (by kernel_rfl) (fun _ _ _ h => h) (Or.inl ⟨by rfl, ?_⟩) hHeld ?_
        rotate_left 1
        · intro W hSw
          (try dsimp only at hSw)
          go_simp
          try with_reducible rfl
        try simp only [Act.put, List.setIfInBounds_toArray, List.set_cons_zero, List.set_cons_succ]
        refine wpAnyH_ready (rs := [5]) (by kernel_rfl) (by simp) ?_
        refine AllReadyH.cons (o := { dst := some 8, op := Op.call { callee := Callee.value (Operand.func 97), args := #[Operand.tmp 7], argTypes := #[25] }, type := 25, pos := "row.go:22", after := #[{ on := 4, ground := Ground.data }, { on := 2, ground := Ground.chain }], guard := none }) rfl (fun K7 hK7 => ?_) ?_
        · go_simp
          refine (HC2.out _ HX5.out.bel).mono ?_
          rintro e w6 ⟨v6, rfl, ho, hb⟩
          obtain ⟨a6, c6, rfl⟩ := ho.slice
          have HX6 := Lib.hid (HX5.out.keep hb)
          have HO6 := Lib.hid (ho.mono (show w.heap.size + 1 + 1 ≤ _ from HX5.out.two.lt))
          have HO56 := Lib.hid (HO5.out.below hb)
          obtain ⟨j0, j1, j2, j3, j4, j5, j6⟩ := HX6.out.one.cells
          have t3 := HX6.out.one.thaw 3
          have t6 := HX6.out.one.thaw 6
          clear hb ho
          try dsimp only
          refine hK7.out _ _ (trivial) (fun hHeld => ?_)
          clear hK7 K7
          try simp only [Act.put, List.setIfInBounds_toArray, List.set_cons_zero, List.set_cons_succ]
          refine wpAnyH_ready (rs := [7]) (by kernel_rfl) (by simp) ?_
          refine AllReadyH.cons (o := { dst := none, op := Op.store 24 (Operand.tmp 9) (Operand.tmp 5), type := 0, pos := "row.go:22", after := #[{ on := 6, ground := Ground.data }, { on := 2, ground := Ground.data }, { on := 5, ground := Ground.chain }, { on := 0, ground := Ground.phase }, { on := 1, ground := Ground.phase }, { on := 2, ground := Ground.phase }, { on := 3, ground := Ground.phase }, { on := 4, ground := Ground.phase }, { on := 5, ground := Ground.textOnly Departure.lateStoresUnsure }], guard := none }) rfl (fun K7 hK7 => ?_) ?_
          · go_simp
            refine hK7.out _ _ (trivial) (fun hHeld => ?_)
            clear hK7 K7
            try simp only [Act.put, List.setIfInBounds_toArray, List.set_cons_zero, List.set_cons_succ]
            refine wpAnyH_take (i := 8) (oi := { dst := some 10, op := Op.fieldAddr 27 (Operand.tmp 1) 5, type := 0, pos := "row.go:22", after := #[{ on := 0, ground := Ground.phase }, { on := 1, ground := Ground.phase }, { on := 2, ground := Ground.phase }, { on := 3, ground := Ground.phase }, { on := 4, ground := Ground.phase }, { on := 5, ground := Ground.phase }, { on := 6, ground := Ground.phase }, { on := 7, ground := Ground.phase }], guard := none }) (v := ?_) rfl (by kernel_rfl) (by kernel_rfl) (by kernel_rfl) (fun _ _ _ h => h) (Or.inl ⟨by rfl, ?_⟩) hHeld ?_
            rotate_left 1
            · intro W hSw
              (try dsimp only at hSw)
              go_simp
              try with_reducible rfl
            try simp only [Act.put, List.setIfInBounds_toArray, List.set_cons_zero, List.set_cons_succ]
            refine wpAnyH_ready (rs := [9]) (by kernel_rfl) (by simp) ?_
            refine AllReadyH.cons (o := { dst := none, op := Op.store 25 (Operand.tmp 10) (Operand.tmp 8), type := 0, pos := "row.go:22", after := #[{ on := 8, ground := Ground.data }, { on := 5, ground := Ground.data }, { on := 7, ground := Ground.chain }, { on := 0, ground := Ground.phase }, { on := 1, ground := Ground.phase }, { on := 2, ground := Ground.phase }, { on := 3, ground := Ground.phase }, { on := 4, ground := Ground.phase }, { on := 5, ground := Ground.phase }, { on := 6, ground := Ground.phase }, { on := 7, ground := Ground.phase }], guard := none }) rfl (fun K7 hK7 => ?_) ?_
            · go_simp
              refine hK7.out _ _ (trivial) (fun hHeld => ?_)
              clear hK7 K7
              try simp only [Act.put, List.setIfInBounds_toArray, List.set_cons_zero, List.set_cons_succ]
              refine wpAnyH_done (by kernel_rfl) ?_ _
              clear hHeld
              have HX7 := Lib.hid ((HX6.out.set3 (.slice a5 l.ps.length c5)).set6 (.slice a6 l.ak.length c6))
              have HP7 := Lib.hid ((HO56.out.far6L (N := w.heap.size) (by omega) 3 (.slice a5 l.ps.length c5)).far6L (N := w.heap.size) (by omega) 6 (.slice a6 l.ak.length c6))
              have HQ7 := Lib.hid ((HO6.out.far6L (N := w.heap.size) (by omega) 3 (.slice a5 l.ps.length c5)).far6L (N := w.heap.size) (by omega) 6 (.slice a6 l.ak.length c6))
              clear l0 l1 l2 l3 l4 l5 l6 m0 m1 m2 m3 m4 m5 m6 j0 j1 j2 j3 j4 j5 j6 t3 t6
              generalize (w6.setCell ⟨w.heap.size, 3, none⟩ _).setCell ⟨w.heap.size, 6, none⟩ _ = W7 at HX7 HP7 HQ7 ⊢
              obtain ⟨d0, d1, d2, d3, d4, d5, d6⟩ := HX7.out.one.cells
              go_wp2_with (refine wpList_store_mid rfl 27 _ _ rfl (w.heap.size + 1) 0 #[.int .i64 l.st, .int .i64 l.r, .int .i64 l.m, .slice a5 l.ps.length c5, .bool l.has, .string l.val, .slice a6 l.ak.length c6] rfl rfl HX7.out.two.there sizeLead (lead_one _ _ _ _ _ _ _ _ _ _ _) ?_)
              refine bodyPost_ret (ret_cell rfl rfl (HX7.out.two.put l.st l.r l.m (.slice a5 l.ps.length c5) l.has l.val (.slice a6 l.ak.length c6)).range Try.underlying27 rfl sizeLead) rfl ?_
              exact ⟨_, _, rfl, ⟨(Own.farCL (N := w.heap.size + 1) (by omega) _ _ HP7.out).mono (by omega), (Own.farCL (N := w.heap.size + 1) (by omega) _ _ HQ7.out).mono (by omega)⟩, Below.setCells HX7.out.bel (b := w.heap.size + 1) (by omega) 0 _⟩
            exact AllReadyH.nil
          exact AllReadyH.nil
        exact AllReadyH.nil
      exact AllReadyH.nil
    refine AllReadyH.cons (o := { dst := some 7, op := Op.load 25 (Operand.tmp 6), type := 25, pos := "row.go:22", after := #[{ on := 3, ground := Ground.data }], guard := none }) rfl (fun K7 hK7 => ?_) ?_
    · go_simp
      refine hK7.out _ _ (trivial) (fun hHeld => ?_)
      clear hK7 K7
      try simp only [Act.put, List.setIfInBounds_toArray, List.set_cons_zero, List.set_cons_succ]
      refine wpAnyH_ready (rs := [2]) (by kernel_rfl) (by simp) ?_
      refine AllReadyH.cons (o := { dst := some 5, op := Op.call { callee := Callee.value (Operand.func 96), args := #[Operand.tmp 4], argTypes := #[24] }, type := 24, pos := "row.go:22", after := #[{ on := 1, ground := Ground.data }], guard := none }) rfl (fun K7 hK7 => ?_) ?_
      · go_simp
        refine (HC1.out _ HXd.out.bel).mono ?_
        rintro e w5 ⟨v5, rfl, ho, hb⟩
        obtain ⟨a5, c5, rfl⟩ := ho.slice
        have HX5 := Lib.hid (HXd.out.keep hb)
        have HO5 := Lib.hid (ho.mono (show w.heap.size + 1 + 1 ≤ _ from HXd.out.two.lt))
        obtain ⟨m0, m1, m2, m3, m4, m5, m6⟩ := HX5.out.one.cells
        clear hb ho
        try dsimp only
        refine hK7.out _ _ (trivial) (fun hHeld => ?_)
        clear hK7 K7
        try simp only [Act.put, List.setIfInBounds_toArray, List.set_cons_zero, List.set_cons_succ]
        refine wpAnyH_take (i := 6) (oi := { dst := some 9, op := Op.fieldAddr 27 (Operand.tmp 1) 2, type := 0, pos := "row.go:22", after := #[{ on := 0, ground := Ground.phase }, { on := 1, ground := Ground.phase }, { on := 2, ground := Ground.phase }, { on := 3, ground := Ground.phase }, { on := 4, ground := Ground.phase }, { on := 5, ground := Ground.textOnly Departure.lateStoresUnsure }], guard := none }) (v := ?_) rfl (by kernel_rfl) (by kernel_rfl) (by kernel_rfl) (fun _ _ _ h => h) (Or.inl ⟨by rfl, ?_⟩) hHeld ?_
        rotate_left 1
        · intro W hSw
          (try dsimp only at hSw)
          go_simp
          try with_reducible rfl
        try simp only [Act.put, List.setIfInBounds_toArray, List.set_cons_zero, List.set_cons_succ]
        refine wpAnyH_ready (rs := [5]) (by kernel_rfl) (by simp) ?_
        refine AllReadyH.cons (o := { dst := some 8, op := Op.call { callee := Callee.value (Operand.func 97), args := #[Operand.tmp 7], argTypes := #[25] }, type := 25, pos := "row.go:22", after := #[{ on := 4, ground := Ground.data }, { on := 2, ground := Ground.chain }], guard := none }) rfl (fun K7 hK7 => ?_) ?_
        · go_simp
          refine (HC2.out _ HX5.out.bel).mono ?_
          rintro e w6 ⟨v6, rfl, ho, hb⟩
          obtain ⟨a6, c6, rfl⟩ := ho.slice
          have HX6 := Lib.hid (HX5.out.keep hb)
          have HO6 := Lib.hid (ho.mono (show w.heap.size + 1 + 1 ≤ _ from HX5.out.two.lt))
          have HO56 := Lib.hid (HO5.out.below hb)
          obtain ⟨j0, j1, j2, j3, j4, j5, j6⟩ := HX6.out.one.cells
          have t3 := HX6.out.one.thaw 3
          have t6 := HX6.out.one.thaw 6
          clear hb ho
          try dsimp only
          refine hK7.out _ _ (trivial) (fun hHeld => ?_)
          clear hK7 K7
          try simp only [Act.put, List.setIfInBounds_toArray, List.set_cons_zero, List.set_cons_succ]
          refine wpAnyH_ready (rs := [7]) (by kernel_rfl) (by simp) ?_
          refine AllReadyH.cons (o := { dst := none, op := Op.store 24 (Operand.tmp 9) (Operand.tmp 5), type := 0, pos := "row.go:22", after := #[{ on := 6, ground := Ground.data }, { on := 2, ground := Ground.data }, { on := 5, ground := Ground.chain }, { on := 0, ground := Ground.phase }, { on := 1, ground := Ground.phase }, { on := 2, ground := Ground.phase }, { on := 3, ground := Ground.phase }, { on := 4, ground := Ground.phase }, { on := 5, ground := Ground.textOnly Departure.lateStoresUnsure }], guard := none }) rfl (fun K7 hK7 => ?_) ?_
          · go_simp
            refine hK7.out _ _ (trivial) (fun hHeld => ?_)
            clear hK7 K7
            try simp only [Act.put, List.setIfInBounds_toArray, List.set_cons_zero, List.set_cons_succ]
            refine wpAnyH_take (i := 8) (oi := { dst := some 10, op := Op.fieldAddr 27 (Operand.tmp 1) 5, type := 0, pos := "row.go:22", after := #[{ on := 0, ground := Ground.phase }, { on := 1, ground := Ground.phase }, { on := 2, ground := Ground.phase }, { on := 3, ground := Ground.phase }, { on := 4, ground := Ground.phase }, { on := 5, ground := Ground.phase }, { on := 6, ground := Ground.phase }, { on := 7, ground := Ground.phase }], guard := none }) (v := ?_) rfl (by kernel_rfl) (by kernel_rfl) (by kernel_rfl) (fun _ _ _ h => h) (Or.inl ⟨by rfl, ?_⟩) hHeld ?_
            rotate_left 1
            · intro W hSw
              (try dsimp only at hSw)
              go_simp
              try with_reducible rfl
            try simp only [Act.put, List.setIfInBounds_toArray, List.set_cons_zero, List.set_cons_succ]
            refine wpAnyH_ready (rs := [9]) (by kernel_rfl) (by simp) ?_
            refine AllReadyH.cons (o := { dst := none, op := Op.store 25 (Operand.tmp 10) (Operand.tmp 8), type := 0, pos := "row.go:22", after := #[{ on := 8, ground := Ground.data }, { on := 5, ground := Ground.data }, { on := 7, ground := Ground.chain }, { on := 0, ground := Ground.phase }, { on := 1, ground := Ground.phase }, { on := 2, ground := Ground.phase }, { on := 3, ground := Ground.phase }, { on := 4, ground := Ground.phase }, { on := 5, ground := Ground.phase }, { on := 6, ground := Ground.phase }, { on := 7, ground := Ground.phase }], guard := none }) rfl (fun K7 hK7 => ?_) ?_
            · go_simp
              refine hK7.out _ _ (trivial) (fun hHeld => ?_)
              clear hK7 K7
              try simp only [Act.put, List.setIfInBounds_toArray, List.set_cons_zero, List.set_cons_succ]
              refine wpAnyH_done (by kernel_rfl) ?_ _
              clear hHeld
              have HX7 := Lib.hid ((HX6.out.set3 (.slice a5 l.ps.length c5)).set6 (.slice a6 l.ak.length c6))
              have HP7 := Lib.hid ((HO56.out.far6L (N := w.heap.size) (by omega) 3 (.slice a5 l.ps.length c5)).far6L (N := w.heap.size) (by omega) 6 (.slice a6 l.ak.length c6))
              have HQ7 := Lib.hid ((HO6.out.far6L (N := w.heap.size) (by omega) 3 (.slice a5 l.ps.length c5)).far6L (N := w.heap.size) (by omega) 6 (.slice a6 l.ak.length c6))
              clear l0 l1 l2 l3 l4 l5 l6 m0 m1 m2 m3 m4 m5 m6 j0 j1 j2 j3 j4 j5 j6 t3 t6
              generalize (w6.setCell ⟨w.heap.size, 3, none⟩ _).setCell ⟨w.heap.size, 6, none⟩ _ = W7 at HX7 HP7 HQ7 ⊢
              obtain ⟨d0, d1, d2, d3, d4, d5, d6⟩ := HX7.out.one.cells
              go_wp2_with (refine wpList_store_mid rfl 27 _ _ rfl (w.heap.size + 1) 0 #[.int .i64 l.st, .int .i64 l.r, .int .i64 l.m, .slice a5 l.ps.length c5, .bool l.has, .string l.val, .slice a6 l.ak.length c6] rfl rfl HX7.out.two.there sizeLead (lead_one _ _ _ _ _ _ _ _ _ _ _) ?_)
              refine bodyPost_ret (ret_cell rfl rfl (HX7.out.two.put l.st l.r l.m (.slice a5 l.ps.length c5) l.has l.val (.slice a6 l.ak.length c6)).range Try.underlying27 rfl sizeLead) rfl ?_
              exact ⟨_, _, rfl, ⟨(Own.farCL (N := w.heap.size + 1) (by omega) _ _ HP7.out).mono (by omega), (Own.farCL (N := w.heap.size + 1) (by omega) _ _ HQ7.out).mono (by omega)⟩, Below.setCells HX7.out.bel (b := w.heap.size + 1) (by omega) 0 _⟩
            exact AllReadyH.nil
          exact AllReadyH.nil
        exact AllReadyH.nil
      exact AllReadyH.nil
    exact AllReadyH.nil
  refine AllReadyH.cons (o := { dst := some 7, op := Op.load 25 (Operand.tmp 6), type := 25, pos := "row.go:22", after := #[{ on := 3, ground := Ground.data }], guard := none }) rfl (fun K7 hK7 => ?_) ?_
  · go_simp
    refine hK7.out _ _ (trivial) (fun hHeld => ?_)
    clear hK7 K7
    try simp only [Act.put, List.setIfInBounds_toArray, List.set_cons_zero, List.set_cons_succ]
    refine wpAnyH_ready (rs := [1]) (by kernel_rfl) (by simp) ?_
    refine AllReadyH.cons (o := { dst := some 4, op := Op.load 24 (Operand.tmp 3), type := 24, pos := "row.go:22", after := #[{ on := 0, ground := Ground.data }], guard := none }) rfl (fun K7 hK7 => ?_) ?_
    · go_simp
      refine hK7.out _ _ (trivial) (fun hHeld => ?_)
      clear hK7 K7
      try simp only [Act.put, List.setIfInBounds_toArray, List.set_cons_zero, List.set_cons_succ]
      refine wpAnyH_ready (rs := [2]) (by kernel_rfl) (by simp) ?_
      refine AllReadyH.cons (o := { dst := some 5, op := Op.call { callee := Callee.value (Operand.func 96), args := #[Operand.tmp 4], argTypes := #[24] }, type := 24, pos := "row.go:22", after := #[{ on := 1, ground := Ground.data }], guard := none }) rfl (fun K7 hK7 => ?_) ?_
      · go_simp
        refine (HC1.out _ HXd.out.bel).mono ?_
        rintro e w5 ⟨v5, rfl, ho, hb⟩
        obtain ⟨a5, c5, rfl⟩ := ho.slice
        have HX5 := Lib.hid (HXd.out.keep hb)
        have HO5 := Lib.hid (ho.mono (show w.heap.size + 1 + 1 ≤ _ from HXd.out.two.lt))
        obtain ⟨m0, m1, m2, m3, m4, m5, m6⟩ := HX5.out.one.cells
        clear hb ho
        try dsimp only
        refine hK7.out _ _ (trivial) (fun hHeld => ?_)
        clear hK7 K7
        try simp only [Act.put, List.setIfInBounds_toArray, List.set_cons_zero, List.set_cons_succ]
        refine wpAnyH_take (i := 6) (oi := { dst := some 9, op := Op.fieldAddr 27 (Operand.tmp 1) 2, type := 0, pos := "row.go:22", after := #[{ on := 0, ground := Ground.phase }, { on := 1, ground := Ground.phase }, { on := 2, ground := Ground.phase }, { on := 3, ground := Ground.phase }, { on := 4, ground := Ground.phase }, { on := 5, ground := Ground.textOnly Departure.lateStoresUnsure }], guard := none }) (v := ?_) rfl (by kernel_rfl) (by kernel_rfl) (by kernel_rfl) (fun _ _ _ h => h) (Or.inl ⟨by rfl, ?_⟩) hHeld ?_
        rotate_left 1
        · intro W hSw
          (try dsimp only at hSw)
          go_simp
          try with_reducible rfl
        try simp only [Act.put, List.setIfInBounds_toArray, List.set_cons_zero, List.set_cons_succ]
        refine wpAnyH_ready (rs := [5]) (by kernel_rfl) (by simp) ?_
        refine AllReadyH.cons (o := { dst := some 8, op := Op.call { callee := Callee.value (Operand.func 97), args := #[Operand.tmp 7], argTypes := #[25] }, type := 25, pos := "row.go:22", after := #[{ on := 4, ground := Ground.data }, { on := 2, ground := Ground.chain }], guard := none }) rfl (fun K7 hK7 => ?_) ?_
        · go_simp
          refine (HC2.out _ HX5.out.bel).mono ?_
          rintro e w6 ⟨v6, rfl, ho, hb⟩
          obtain ⟨a6, c6, rfl⟩ := ho.slice
          have HX6 := Lib.hid (HX5.out.keep hb)
          have HO6 := Lib.hid (ho.mono (show w.heap.size + 1 + 1 ≤ _ from HX5.out.two.lt))
          have HO56 := Lib.hid (HO5.out.below hb)
          obtain ⟨j0, j1, j2, j3, j4, j5, j6⟩ := HX6.out.one.cells
          have t3 := HX6.out.one.thaw 3
          have t6 := HX6.out.one.thaw 6
          clear hb ho
          try dsimp only
          refine hK7.out _ _ (trivial) (fun hHeld => ?_)
          clear hK7 K7
          try simp only [Act.put, List.setIfInBounds_toArray, List.set_cons_zero, List.set_cons_succ]
          refine wpAnyH_ready (rs := [7]) (by kernel_rfl) (by simp) ?_
          refine AllReadyH.cons (o := { dst := none, op := Op.store 24 (Operand.tmp 9) (Operand.tmp 5), type := 0, pos := "row.go:22", after := #[{ on := 6, ground := Ground.data }, { on := 2, ground := Ground.data }, { on := 5, ground := Ground.chain }, { on := 0, ground := Ground.phase }, { on := 1, ground := Ground.phase }, { on := 2, ground := Ground.phase }, { on := 3, ground := Ground.phase }, { on := 4, ground := Ground.phase }, { on := 5, ground := Ground.textOnly Departure.lateStoresUnsure }], guard := none }) rfl (fun K7 hK7 => ?_) ?_
          · go_simp
            refine hK7.out _ _ (trivial) (fun hHeld => ?_)
            clear hK7 K7
            try simp only [Act.put, List.setIfInBounds_toArray, List.set_cons_zero, List.set_cons_succ]
            refine wpAnyH_take (i := 8) (oi := { dst := some 10, op := Op.fieldAddr 27 (Operand.tmp 1) 5, type := 0, pos := "row.go:22", after := #[{ on := 0, ground := Ground.phase }, { on := 1, ground := Ground.phase }, { on := 2, ground := Ground.phase }, { on := 3, ground := Ground.phase }, { on := 4, ground := Ground.phase }, { on := 5, ground := Ground.phase }, { on := 6, ground := Ground.phase }, { on := 7, ground := Ground.phase }], guard := none }) (v := ?_) rfl (by kernel_rfl) (by kernel_rfl) (by kernel_rfl) (fun _ _ _ h => h) (Or.inl ⟨by rfl, ?_⟩) hHeld ?_
            rotate_left 1
            · intro W hSw
              (try dsimp only at hSw)
              go_simp
              try with_reducible rfl
            try simp only [Act.put, List.setIfInBounds_toArray, List.set_cons_zero, List.set_cons_succ]
            refine wpAnyH_ready (rs := [9]) (by kernel_rfl) (by simp) ?_
            refine AllReadyH.cons (o := { dst := none, op := Op.store 25 (Operand.tmp 10) (Operand.tmp 8), type := 0, pos := "row.go:22", after := #[{ on := 8, ground := Ground.data }, { on := 5, ground := Ground.data }, { on := 7, ground := Ground.chain }, { on := 0, ground := Ground.phase }, { on := 1, ground := Ground.phase }, { on := 2, ground := Ground.phase }, { on := 3, ground := Ground.phase }, { on := 4, ground := Ground.phase }, { on := 5, ground := Ground.phase }, { on := 6, ground := Ground.phase }, { on := 7, ground := Ground.phase }], guard := none }) rfl (fun K7 hK7 => ?_) ?_
            · go_simp
              refine hK7.out _ _ (trivial) (fun hHeld => ?_)
              clear hK7 K7
              try simp only [Act.put, List.setIfInBounds_toArray, List.set_cons_zero, List.set_cons_succ]
              refine wpAnyH_done (by kernel_rfl) ?_ _
              clear hHeld
              have HX7 := Lib.hid ((HX6.out.set3 (.slice a5 l.ps.length c5)).set6 (.slice a6 l.ak.length c6))
              have HP7 := Lib.hid ((HO56.out.far6L (N := w.heap.size) (by omega) 3 (.slice a5 l.ps.length c5)).far6L (N := w.heap.size) (by omega) 6 (.slice a6 l.ak.length c6))
              have HQ7 := Lib.hid ((HO6.out.far6L (N := w.heap.size) (by omega) 3 (.slice a5 l.ps.length c5)).far6L (N := w.heap.size) (by omega) 6 (.slice a6 l.ak.length c6))
              clear l0 l1 l2 l3 l4 l5 l6 m0 m1 m2 m3 m4 m5 m6 j0 j1 j2 j3 j4 j5 j6 t3 t6
              generalize (w6.setCell ⟨w.heap.size, 3, none⟩ _).setCell ⟨w.heap.size, 6, none⟩ _ = W7 at HX7 HP7 HQ7 ⊢
              obtain ⟨d0, d1, d2, d3, d4, d5, d6⟩ := HX7.out.one.cells
              go_wp2_with (refine wpList_store_mid rfl 27 _ _ rfl (w.heap.size + 1) 0 #[.int .i64 l.st, .int .i64 l.r, .int .i64 l.m, .slice a5 l.ps.length c5, .bool l.has, .string l.val, .slice a6 l.ak.length c6] rfl rfl HX7.out.two.there sizeLead (lead_one _ _ _ _ _ _ _ _ _ _ _) ?_)
              refine bodyPost_ret (ret_cell rfl rfl (HX7.out.two.put l.st l.r l.m (.slice a5 l.ps.length c5) l.has l.val (.slice a6 l.ak.length c6)).range Try.underlying27 rfl sizeLead) rfl ?_
              exact ⟨_, _, rfl, ⟨(Own.farCL (N := w.heap.size + 1) (by omega) _ _ HP7.out).mono (by omega), (Own.farCL (N := w.heap.size + 1) (by omega) _ _ HQ7.out).mono (by omega)⟩, Below.setCells HX7.out.bel (b := w.heap.size + 1) (by omega) 0 _⟩
            exact AllReadyH.nil
          exact AllReadyH.nil
        exact AllReadyH.nil
      exact AllReadyH.nil
    exact AllReadyH.nil
  exact AllReadyH.nil
  --R1E
end Go.Proofs.Ytcofmfjhgbihkaa.crush
