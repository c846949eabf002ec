/- Accept. -/
import Derived.Test.YtmdipcemhaomhaaRows
import Derived.Test.YtmdipcemhaomhaaAccPrep
namespace Go.Proofs.Ytmdipcemhaomhaa.crush
open Go.RowKit
open Go.Proofs.Ytmdipcemhaomhaa.kit Go.Proofs.Ytmdipcemhaomhaa.own
set_option linter.unusedVariables false
set_option linter.unusedSimpArgs false

theorem prepE_com (a : AccV) (b : BalV) : (prepE a b).com = a.com := by unfold prepE; split <;> rfl
def AcptS (w : World) (a : AccV) (b : BalV) (n : Int) (t : ByteArray) (e : Ending) (w' : World) : Prop := ∃ s, e = .returned (.tuple #[(accE a b n t).agg s, .int .i64 (accN a b n t)]) ∧ Own tx 1 9 w' w.heap.size s a.com ∧ Below w.heap.size w w'
theorem ABox.accept {W : World} {N : Nat} {pr pm : Int} {has : Bool} {ar am : Int} {val : ByteArray} {s : Value} (h : ABox W N pr pm has ar am val s) (ar' am' : Int) (val' : ByteArray) : ABox (W.setCells N 2 [.bool true, .int .i64 ar', .int .i64 am', .string val']) N pr pm true ar' am' val' s := heap_setCells N 26 [.bool true, .int .i64 ar', .int .i64 am', .string val'] 2 W _ h
theorem there_at {W : World} {N : Nat} (h : W.there N 0 7) (o k : Nat) (hk : o + k ≤ 7) : W.there N o k := fun j hj => by
  have := h (o + j) (by omega)
  rwa [Nat.zero_add] at this
section
variable {w : World} {N : Nat} {pr pm : Int} {has : Bool} {ar am : Int} {val : ByteArray} {s : Value} {r m : Int} {W W' : World}
theorem Three.setHas (h : Three w N pr pm has ar am val s r m W) (q : Bool) : Three w N pr pm q ar am val s r m (W.setCell ⟨N, 2, none⟩ (.bool q)) :=
  ⟨h.hN, h.bel.setCell (p := ⟨N, 2, none⟩) (Nat.le_of_eq h.hN.symm) _, heap_setCells N 26 [.bool q] 2 W _ h.one, (heap_setCells_other N [.bool q] 2 W _ (by omega)).trans h.bal, (heap_setCells_other N [.bool q] 2 W _ (by omega)).trans h.two⟩
theorem Three.setVal (h : Three w N pr pm has ar am val s r m W) (q : ByteArray) : Three w N pr pm has ar am q s r m (W.setCell ⟨N, 5, none⟩ (.string q)) :=
  ⟨h.hN, h.bel.setCell (p := ⟨N, 5, none⟩) (Nat.le_of_eq h.hN.symm) _, heap_setCells N 26 [.string q] 5 W _ h.one, (heap_setCells_other N [.string q] 5 W _ (by omega)).trans h.bal, (heap_setCells_other N [.string q] 5 W _ (by omega)).trans h.two⟩
theorem Three.setAt (h : Three w N pr pm has ar am val s r m W) (q u : Int) : Three w N pr pm has q u val s r m (W.setCells N 3 [.int .i64 q, .int .i64 u]) :=
  ⟨h.hN, Below.setCells h.bel (Nat.le_of_eq h.hN.symm) 3 _, heap_setCells N 26 [.int .i64 q, .int .i64 u] 3 W _ h.one, (heap_setCells_other N [.int .i64 q, .int .i64 u] 3 W _ (by omega)).trans h.bal, (heap_setCells_other N [.int .i64 q, .int .i64 u] 3 W _ (by omega)).trans h.two⟩
end
theorem acc_cases (a : AccV) (b : BalV) (n : Int) (t : ByteArray) : (okTxt t = false ∧ accE a b n t = a ∧ accN a b n t = 0) ∨ (okTxt t = true ∧ prepOk a b = false ∧ accE a b n t = prepE a b ∧ accN a b n t = 0) ∨
    (okTxt t = true ∧ prepOk a b = true ∧ n ≤ (a.com.length : Int) ∧ accE a b n t = prepE a b ∧ accN a b n t = 2) ∨
    (okTxt t = true ∧ prepOk a b = true ∧ ¬ n ≤ (a.com.length : Int) ∧ (True → (n != (a.com.length : Int) + 1) = true) ∧ accE a b n t = prepE a b ∧ accN a b n t = 3) ∨
    (okTxt t = true ∧ prepOk a b = true ∧ ¬ n ≤ (a.com.length : Int) ∧ (True → (n != (a.com.length : Int) + 1) = false) ∧ 4096 ≤ (a.com.length : Int) ∧ accE a b n t = prepE a b ∧ accN a b n t = 3) ∨
    (okTxt t = true ∧ prepOk a b = true ∧ ¬ n ≤ (a.com.length : Int) ∧ (True → (n != (a.com.length : Int) + 1) = false) ∧ ¬ 4096 ≤ (a.com.length : Int) ∧ accE a b n t = { prepE a b with has := true, ar := b.r, am := b.m, val := t } ∧ accN a b n t = 1) := by
  unfold accE
  cases ht : okTxt t with
  | false => exact .inl ⟨rfl, by simp, by unfold accN; simp [ht]⟩
  | true =>
    refine .inr ?_
    cases hp : prepOk a b with
    | false => 
      have : accN a b n t = 0 := by unfold accN; simp [hp]
      exact .inl ⟨rfl, rfl, by simp [this], this⟩
    | true =>
      refine .inr ?_
      by_cases h1 : n ≤ (a.com.length : Int)
      · have : accN a b n t = 2 := by unfold accN; simp [hp, ht, h1]
        exact .inl ⟨rfl, rfl, h1, by simp [this], this⟩
      · refine .inr ?_
        by_cases h2 : n = (a.com.length : Int) + 1
        · refine .inr ?_
          by_cases h3 : 4096 ≤ (a.com.length : Int)
          · have : accN a b n t = 3 := by unfold accN; simp [hp, ht]; omega
            exact .inl ⟨rfl, rfl, h1, fun _ => by simp [h2], h3, by simp [this], this⟩
          · have : accN a b n t = 1 := by unfold accN; simp [hp, ht]; omega
            exact .inr ⟨rfl, rfl, h1, fun _ => by simp [h2], h3, by simp [this], this⟩
        · have : accN a b n t = 3 := by unfold accN; simp [hp, ht]; omega
          exact .inl ⟨rfl, rfl, h1, fun _ => by simp [h2], by simp [this], this⟩
set_option maxHeartbeats 16000000 in
set_option maxRecDepth 100000 in
theorem Accept_any (v : Value) (a : AccV) (b : BalV) (n : Int) (t : ByteArray) (w : World) (h : AccR w v a) (hl : a.com.length * 16 ≤ 140737488355328) : Calls Try.prog 13 #[v, b.val, .int .i64 n, .string t] w (AcptS w a b n t) := by
  have HCo := Lib.hid (fun u (hu : Below w.heap.size w u) => copied_any v a u (h.keep hu) hl)
  have HPr := Lib.hid (fun u (hu : Below w.heap.size w u) => Prepare_any v a b u (h.keep hu) hl)
  have HFv := Lib.hid (fun u => fitValue_any t u)
  have HCn := Lib.hid (fun v2 u (hu : AccR u v2 (prepE a b)) => count_any v2 (prepE a b) u hu)
  have hcs := acc_cases a b n t
  have hwr : IntKind.i64.wrap ((a.com.length : Int) + 1) = (a.com.length : Int) + 1 := by rw [IntKind.wrap_i64]; omega
  have hpc := prepE_com a b
  obtain ⟨s, rfl, hs⟩ := h
  obtain ⟨x, y, rfl⟩ := hs.slice
  obtain ⟨r, m⟩ := b
  have HX := Lib.hid (three_new w a.pr a.pm a.has a.ar a.am a.val (.slice x a.com.length y) r m)
  unfold AcptS
  unfold PrepS at HPr
  obtain ⟨p, hp⟩ : ∃ p, prepE a ⟨r, m⟩ = p := ⟨_, rfl⟩
  obtain ⟨q, hq⟩ : ∃ q, prepOk a ⟨r, m⟩ = q := ⟨_, rfl⟩
  obtain ⟨f, hf⟩ : ∃ f, okTxt t = f := ⟨_, rfl⟩
  rw [hp, hq] at HPr
  rw [hp] at HCn hpc
  rw [hp, hq, hf] at hcs
  rw [hf] at HFv
  obtain ⟨E, hE⟩ : ∃ E, accE a ⟨r, m⟩ n t = E := ⟨_, rfl⟩
  obtain ⟨Z, hZ⟩ : ∃ Z, accN a ⟨r, m⟩ n t = Z := ⟨_, rfl⟩
  rw [hE, hZ] at hcs ⊢
  unfold AccS at HCo
  unfold AccV.agg at HCo HPr ⊢
  unfold BalV.val at HPr ⊢
  obtain ⟨L, hL⟩ : ∃ L, a.com.length = L := ⟨_, rfl⟩
  have HLn := Lib.hid hL
  have hLp : p.com.length = L := by rw [hpc]; exact hL
  have HRp : Hid (∀ sl u B, Own tx 1 9 u B sl a.com → AccR u (.agg #[.int .i64 p.pr, .int .i64 p.pm, .bool p.has, .int .i64 p.ar, .int .i64 p.am, .string p.val, sl]) p) := Lib.hid (fun sl u B ho => ⟨sl, rfl, by rw [hpc]; exact ho.read tx_len⟩)
  rw [hLp] at HCn
  rw [hL] at HX HCo HPr hcs hwr ⊢
  have hkw : True → IntKind.i64.wrap ((L : Int) + 1) = (L : Int) + 1 := fun _ => hwr
  clear hs hl hp hq hf hE hZ hL hwr hLp hpc
  obtain ⟨pr, pm, has, ar, am, val, com⟩ := a
  obtain ⟨pr', pm', has', ar', am', val', com'⟩ := p
  simp only at HX HCo HPr HRp HLn HCn hcs ⊢
  have HCs := Lib.hid hcs
  clear hcs
  go_enter Try.func13, Try.ntmps13
  go_upto_region 1 with fail
  generalize (((w.alloc (.cells #[.int .i64 pr, .int .i64 pm, .bool has, .int .i64 ar, .int .i64 am, .string val, .slice x L y] 26)).alloc (.cells #[.int .i64 r, .int .i64 m] 23)).alloc (.cells #[.int .i64 0, .int .i64 0, .bool false, .int .i64 0, .int .i64 0, .string { data := #[] }, .slice none 0 0] 26)) = W at HX ⊢
  cases f with
  | false =>
    have hcs2 : E = ⟨pr, pm, has, ar, am, val, com⟩ ∧ Z = 0 := by
      rcases HCs.out with ⟨-, h1, h2⟩ | ⟨h, -⟩ | ⟨h, -⟩ | ⟨h, -⟩ | ⟨h, -⟩ | ⟨h, -⟩
      · exact ⟨h1, h2⟩
      all_goals cases h
    obtain ⟨rfl, rfl⟩ := hcs2
    clear HCs
    go_wp2_with (first
      | (go_at_call 48; refine (HFv.out _).mono ?_; rintro e w4 ⟨rfl, hb⟩; have HX4 := Lib.hid (HX.out.keep hb); clear hb; obtain ⟨c0, c1, c2, c3, c4, c5, c6⟩ := HX4.out.one.cells)
      | (go_at_call 45; refine (HCo.out _ HX4.out.bel).mono ?_; rintro e w5 ⟨v5, rfl, ho, hb⟩; obtain ⟨x5, y5, rfl⟩ := ho.slice; rw [HLn.out] at ho ⊢; have HX5 := Lib.hid (HX4.out.keep hb); have HO5 := Lib.hid (ho.mono (show w.heap.size + 1 + 1 + 1 ≤ _ from HX4.out.two.lt)); clear ho hb c0 c1 c2 c3 c4 c5 c6)
      | (refine wpList_store_mid rfl 26 _ _ rfl (w.heap.size + 1 + 1) 0 #[.int .i64 pr, .int .i64 pm, .bool has, .int .i64 ar, .int .i64 am, .string val, .slice x5 L y5] rfl rfl HX5.out.two.there sizeAcc (acc_one _ _ _ _ _ _ _ _ _) ?_))
    refine bodyPost_ret (ret_cell_tmp rfl rfl (HX5.out.two.put pr pm has ar am val (.slice x5 L y5)).range Try.underlying26 rfl sizeAcc) rfl ?_
    exact ⟨_, rfl, (Own.farC (N := w.heap.size + 1 + 1) (by omega) _ _ HO5.out).mono (by omega), Below.setCells HX5.out.bel (b := w.heap.size + 1 + 1) (by omega) 0 _⟩
  | true =>
    go_upto_region 4 with (first
      | (go_at_call 48; refine (HFv.out _).mono ?_; rintro e w4 ⟨rfl, hb⟩; have HX4 := Lib.hid (HX.out.keep hb); clear hb; obtain ⟨c0, c1, c2, c3, c4, c5, c6⟩ := HX4.out.one.cells; obtain ⟨b0, b1⟩ := HX4.out.balc)
      | (go_at_call 10; refine (HPr.out _ HX4.out.bel).mono ?_; rintro e w5 ⟨v5, rfl, ho, hb⟩; obtain ⟨x5, y5, rfl⟩ := ho.slice; rw [HLn.out] at ho ⊢; have HX5 := Lib.hid (HX4.out.keep hb); have HO5 := Lib.hid (ho.mono (show w.heap.size + 1 + 1 + 1 ≤ _ from HX4.out.two.lt)); clear ho hb c0 c1 c2 c3 c4 c5 c6 b0 b1)
      | (refine wpList_store_mid rfl 26 _ _ rfl w.heap.size 0 #[.int .i64 pr', .int .i64 pm', .bool has', .int .i64 ar', .int .i64 am', .string val', .slice x5 L y5] rfl rfl HX5.out.one.there sizeAcc (acc_one _ _ _ _ _ _ _ _ _) ?_; have HX6 := Lib.hid (HX5.out.put pr' pm' has' ar' am' val' (.slice x5 L y5)); have HO6 := Lib.hid (Own.farC (N := w.heap.size) (by omega) [.int .i64 pr', .int .i64 pm', .bool has', .int .i64 ar', .int .i64 am', .string val', .slice x5 L y5] 0 HO5.out); generalize (w5.setCells w.heap.size 0 (#[.int .i64 pr', .int .i64 pm', .bool has', .int .i64 ar', .int .i64 am', .string val', .slice x5 L y5] : Array Value).toList) = W6 at HX6 HO6 ⊢))
    obtain ⟨c0, c1, c2, c3, c4, c5, c6⟩ := HX6.out.one.cells
    rcases HCs.out with ⟨h, -⟩ | ⟨-, rfl, rfl, rfl⟩ | ⟨-, rfl, h1, rfl, rfl⟩ | ⟨-, rfl, h1, h2, rfl, rfl⟩ | ⟨-, rfl, h1, h2, h3, rfl, rfl⟩ | ⟨-, rfl, h1, h2, h3, rfl, rfl⟩
    · cases h
    · go_wp2_with (refine wpList_store_mid rfl 26 _ _ rfl (w.heap.size + 1 + 1) 0 #[.int .i64 pr', .int .i64 pm', .bool has', .int .i64 ar', .int .i64 am', .string val', .slice x5 L y5] rfl rfl HX6.out.two.there sizeAcc (acc_one _ _ _ _ _ _ _ _ _) ?_)
      refine bodyPost_ret (ret_cell_tmp rfl rfl (HX6.out.two.put pr' pm' has' ar' am' val' (.slice x5 L y5)).range Try.underlying26 rfl sizeAcc) rfl ?_
      exact ⟨_, rfl, (Own.farC (N := w.heap.size + 1 + 1) (by omega) _ _ HO6.out).mono (by omega), Below.setCells HX6.out.bel (b := w.heap.size + 1 + 1) (by omega) 0 _⟩
    rotate_right
    · go_upto_region 11 with (go_at_call 49; refine (HCn.out _ _ (HRp.out _ _ _ HO6.out)).mono ?_; rintro e w7 ⟨rfl, hb⟩; have HX7 := Lib.hid (HX6.out.keep hb); have HO7 := Lib.hid (HO6.out.below hb); clear hb c0 c1 c2 c3 c4 c5 c6)
      obtain ⟨b0, b1⟩ := HX7.out.balc
      have HXd := Lib.hid (HX7.out.keep (below_drew (Below.refl _ _)))
      have HOd := Lib.hid (HO7.out.below (below_drew (Below.refl _ _)))
      have c2 := HXd.out.one.cells.2.2.1
      have f2 := HXd.out.one.thaw 2
      have HBc : Hid (w7.drew.cell? ⟨w.heap.size + 1, 0, none⟩ = some (.int .i64 r) ∧ w7.drew.cell? ⟨w.heap.size + 1, 1, none⟩ = some (.int .i64 m)) := Lib.hid HXd.out.balc
      --R11
      refine wp_region_held_drew (S := fun u => u.cell? ⟨w.heap.size + 1, 0, none⟩ = some (.int .i64 r) ∧ u.cell? ⟨w.heap.size + 1, 1, none⟩ = some (.int .i64 m)) (by kernel_rfl) (HBc.out) (fun hHeld => ?_)
      refine wpAnyH_take (i := 0) (oi := { dst := some 43, op := Op.load 23 (Operand.tmp 5), type := 23, pos := "accept.go:54", after := #[{ on := 3, ground := Ground.gcOnly Departure.lateStores }], guard := none }) (v := ?_) rfl (by kernel_rfl) (by kernel_rfl) (by kernel_rfl) (fun _ _ _ h => h) (Or.inl ⟨by rfl, ?_⟩) hHeld ?_
      rotate_left 1
      · intro W hSw
        (try dsimp only at hSw)
        go_simp
        try with_reducible rfl
      try simp only [Act.put, List.setIfInBounds_toArray, List.set_cons_zero, List.set_cons_succ]
      refine wpAnyH_take (i := 1) (oi := { dst := some 44, op := Op.move (Operand.tmp 3), type := 9, pos := "accept.go:54", after := #[{ on := 5, ground := Ground.gcOnly Departure.lateStores }], guard := none }) (v := ?_) rfl (by kernel_rfl) (by kernel_rfl) (by kernel_rfl) (fun _ _ _ h => h) (Or.inl ⟨by rfl, ?_⟩) hHeld ?_
      rotate_left 1
      · intro W hSw
        (try dsimp only at hSw)
        go_simp
        try with_reducible rfl
      try simp only [Act.put, List.setIfInBounds_toArray, List.set_cons_zero, List.set_cons_succ]
      refine wpAnyH_take (i := 2) (oi := { dst := some 45, op := Op.fieldAddr 26 (Operand.tmp 4) 1, type := 0, pos := "accept.go:54", after := #[{ on := 0, ground := Ground.textOnly Departure.lateStores }, { on := 1, ground := Ground.textOnly Departure.lateStores }], guard := none }) (v := ?_) rfl (by kernel_rfl) (by kernel_rfl) (by kernel_rfl) (fun _ _ _ h => h) (Or.inl ⟨by rfl, ?_⟩) hHeld ?_
      rotate_left 1
      · intro W hSw
        (try dsimp only at hSw)
        go_simp
        try with_reducible rfl
      try simp only [Act.put, List.setIfInBounds_toArray, List.set_cons_zero, List.set_cons_succ]
      refine wpAnyH_ready (rs := [3]) (by kernel_rfl) (by simp) ?_
      refine AllReadyH.cons (o := { dst := none, op := Op.store 4 (Operand.tmp 45) (Operand.const (Value.bool true)), type := 0, pos := "accept.go:54", after := #[{ on := 2, ground := Ground.data }, { on := 0, ground := Ground.textOnly Departure.lateStores }, { on := 1, ground := Ground.textOnly Departure.lateStores }], guard := none }) rfl (fun K7 hK7 => ?_) ?_
      · go_simp
        have HX8 := Lib.hid ((HX7.out.setHas true).keep (below_drew (Below.refl _ _)))
        have HO8 := Lib.hid ((HO7.out.far6 (N := w.heap.size) (by omega) 2 (.bool true)).below (below_drew (Below.refl _ _)))
        clear c2 f2
        generalize (w7.setCell ⟨w.heap.size, 2, none⟩ (.bool true)).drew = W8 at HX8 HO8 ⊢
        refine hK7.out _ _ (HX8.out.balc) (fun hHeld => ?_)
        clear hK7 K7
        try simp only [Act.put, List.setIfInBounds_toArray, List.set_cons_zero, List.set_cons_succ]
        refine wpAnyH_take (i := 4) (oi := { dst := some 46, op := Op.fieldAddr 26 (Operand.tmp 4) 2, type := 0, pos := "accept.go:54", after := #[{ on := 0, ground := Ground.phase }, { on := 1, ground := Ground.textOnly Departure.lateStores }, { on := 2, ground := Ground.phase }, { on := 3, ground := Ground.phase }], guard := none }) (v := ?_) rfl (by kernel_rfl) (by kernel_rfl) (by kernel_rfl) (fun _ _ _ h => h) (Or.inl ⟨by rfl, ?_⟩) hHeld ?_
        rotate_left 1
        · intro W hSw
          (try dsimp only at hSw)
          go_simp
          try with_reducible rfl
        try simp only [Act.put, List.setIfInBounds_toArray, List.set_cons_zero, List.set_cons_succ]
        refine wpAnyH_ready (rs := [5]) (by kernel_rfl) (by simp) ?_
        refine AllReadyH.cons (o := { dst := none, op := Op.store 23 (Operand.tmp 46) (Operand.tmp 43), type := 0, pos := "accept.go:54", after := #[{ on := 4, ground := Ground.data }, { on := 0, ground := Ground.data }, { on := 3, ground := Ground.chain }, { on := 0, ground := Ground.phase }, { on := 1, ground := Ground.textOnly Departure.lateStores }, { on := 2, ground := Ground.phase }, { on := 3, ground := Ground.phase }], guard := none }) rfl (fun K7 hK7 => ?_) ?_
        · refine wp_store_mid 23 _ _ rfl w.heap.size 3 #[.int .i64 r, .int .i64 m] rfl rfl (there_at HX8.out.one.there 3 2 (by omega)) sizeBal (bal_one _ _) ?_
          have HX9 := Lib.hid (HX8.out.setAt r m)
          have HO9 := Lib.hid (Own.farC (N := w.heap.size) (by omega) [.int .i64 r, .int .i64 m] 3 HO8.out)
          generalize (W8.setCells w.heap.size 3 (#[.int .i64 r, .int .i64 m] : Array Value).toList) = W9 at HX9 HO9 ⊢
          have c5 := HX9.out.one.cells.2.2.2.2.2.1
          have f5 := HX9.out.one.thaw 5
          try dsimp only
          refine hK7.out _ _ (HX9.out.balc) (fun hHeld => ?_)
          clear hK7 K7
          try simp only [Act.put, List.setIfInBounds_toArray, List.set_cons_zero, List.set_cons_succ]
          refine wpAnyH_take (i := 6) (oi := { dst := some 47, op := Op.fieldAddr 26 (Operand.tmp 4) 3, type := 0, pos := "accept.go:54", after := #[{ on := 0, ground := Ground.phase }, { on := 1, ground := Ground.phase }, { on := 2, ground := Ground.phase }, { on := 3, ground := Ground.phase }, { on := 4, ground := Ground.phase }, { on := 5, ground := Ground.phase }], guard := none }) (v := ?_) rfl (by kernel_rfl) (by kernel_rfl) (by kernel_rfl) (fun _ _ _ h => h) (Or.inl ⟨by rfl, ?_⟩) hHeld ?_
          rotate_left 1
          · intro W hSw
            (try dsimp only at hSw)
            go_simp
            try with_reducible rfl
          try simp only [Act.put, List.setIfInBounds_toArray, List.set_cons_zero, List.set_cons_succ]
          refine wpAnyH_ready (rs := [7]) (by kernel_rfl) (by simp) ?_
          refine AllReadyH.cons (o := { dst := none, op := Op.store 9 (Operand.tmp 47) (Operand.tmp 44), type := 0, pos := "accept.go:54", after := #[{ on := 6, ground := Ground.data }, { on := 1, ground := Ground.data }, { on := 5, ground := Ground.chain }, { on := 0, ground := Ground.phase }, { on := 1, ground := Ground.phase }, { on := 2, ground := Ground.phase }, { on := 3, ground := Ground.phase }, { on := 4, ground := Ground.phase }, { on := 5, ground := Ground.phase }], guard := none }) rfl (fun K7 hK7 => ?_) ?_
          · go_simp
            have HX10 := Lib.hid (HX9.out.setVal t)
            have HO10 := Lib.hid (HO9.out.far6 (N := w.heap.size) (by omega) 5 (.string t))
            clear c5 f5
            generalize W9.setCell ⟨w.heap.size, 5, none⟩ (.string t) = W10 at HX10 HO10 ⊢
            refine hK7.out _ _ (HX10.out.balc) (fun hHeld => ?_)
            clear hK7 K7
            try simp only [Act.put, List.setIfInBounds_toArray, List.set_cons_zero, List.set_cons_succ]
            refine wpAnyH_done (by kernel_rfl) ?_ _
            clear hHeld
            obtain ⟨c0, c1, c2, c3, c4, c5, c6⟩ := HX10.out.one.cells
            go_wp2_with (refine wpList_store_mid rfl 26 _ _ rfl (w.heap.size + 1 + 1) 0 #[.int .i64 pr', .int .i64 pm', .bool true, .int .i64 r, .int .i64 m, .string t, .slice x5 L y5] rfl rfl HX10.out.two.there sizeAcc (acc_one _ _ _ _ _ _ _ _ _) ?_)
            refine bodyPost_ret (ret_cell_tmp rfl rfl (HX10.out.two.put pr' pm' true r m t (.slice x5 L y5)).range Try.underlying26 rfl sizeAcc) rfl ?_
            exact ⟨_, rfl, (Own.farC (N := w.heap.size + 1 + 1) (by omega) _ _ HO10.out).mono (by omega), Below.setCells HX10.out.bel (b := w.heap.size + 1 + 1) (by omega) 0 _⟩
          exact AllReadyH.nil
        exact AllReadyH.nil
      exact AllReadyH.nil
      --R11E
    all_goals
      go_wp2_with (first
        | (go_at_call 49; refine (HCn.out _ _ (HRp.out _ _ _ HO6.out)).mono ?_; rintro e w7 ⟨rfl, hb⟩; have HX7 := Lib.hid (HX6.out.keep hb); have HO7 := Lib.hid (HO6.out.below hb); clear hb c0 c1 c2 c3 c4 c5 c6; obtain ⟨c0, c1, c2, c3, c4, c5, c6⟩ := HX7.out.one.cells)
        | (refine wpList_store_mid rfl 26 _ _ rfl (w.heap.size + 1 + 1) 0 #[.int .i64 pr', .int .i64 pm', .bool has', .int .i64 ar', .int .i64 am', .string val', .slice x5 L y5] rfl rfl HX7.out.two.there sizeAcc (acc_one _ _ _ _ _ _ _ _ _) ?_))
      refine bodyPost_ret (ret_cell_tmp rfl rfl (HX7.out.two.put pr' pm' has' ar' am' val' (.slice x5 L y5)).range Try.underlying26 rfl sizeAcc) rfl ?_
      exact ⟨_, rfl, (Own.farC (N := w.heap.size + 1 + 1) (by omega) _ _ HO7.out).mono (by omega), Below.setCells HX7.out.bel (b := w.heap.size + 1 + 1) (by omega) 0 _⟩
end Go.Proofs.Ytmdipcemhaomhaa.crush
