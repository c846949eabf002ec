/- A change on a sheet. -/
import Derived.Test.YtcofmfjhgbihkaaRows
import Derived.Test.YtcofmfjhgbihkaaMapsOsd
import Derived.Test.YtcofmfjhgbihkaaHeldIn
namespace Go.Proofs.Ytcofmfjhgbihkaa.crush
open Go.RowKit
open Go.Proofs.Ytcofmfjhgbihkaa.kit Go.Proofs.Ytcofmfjhgbihkaa.own
set_option linter.unusedVariables false
set_option linter.unusedSimpArgs false

/-- What each kind of change does. -/
def deedA (S : Nat) : Array Value := #[.nilFunc, .func (.func 127) #[.pointer (some ⟨S, 0, none⟩)] #[], .func (.func 128) #[.pointer (some ⟨S, 0, none⟩)] #[], .func (.func 129) #[.pointer (some ⟨S, 0, none⟩)] #[], .func (.func 130) #[.pointer (some ⟨S, 0, none⟩)] #[], .func (.func 131) #[.pointer (some ⟨S, 0, none⟩)] #[], .func (.func 132) #[.pointer (some ⟨S, 0, none⟩)] #[]]
theorem deed_one (S : Nat) : (deedA S).all (·.oneCell') = true := by simp [deedA, Value.oneCell']
theorem sizeDeed : (Try.prog.info? 186).map (·.size) = some 7 := by kernel_rfl
def DBox (W : World) (N S : Nat) : Prop := W.heap[N]? = some (.cells (deedA S) 186 (0, 0))
theorem DBox.keep {W W' : World} {N S : Nat} (h : DBox W N S) (hb : Below W.heap.size W W') : DBox W' N S := (hb.block N (Array.getElem?_eq_some_iff.1 h).1).trans h
theorem there_of {W : World} {N : Nat} {arr : Array Value} {t : TypeId} (h : W.heap[N]? = some (.cells arr t (0, 0))) : W.there N 0 arr.size := fun j hj => ⟨by simp only [World.cell?, h, Nat.zero_add]; simp [hj], by simp [World.frozen?, h]⟩
theorem deed_there (w : World) : (w.alloc (.cells #[.nilFunc, .nilFunc, .nilFunc, .nilFunc, .nilFunc, .nilFunc, .nilFunc] 186)).there w.heap.size 0 7 :=
  there_of (alloc_at w (.cells #[.nilFunc, .nilFunc, .nilFunc, .nilFunc, .nilFunc, .nilFunc, .nilFunc] 186))
theorem deed_set (w : World) (S : Nat) : DBox ((w.alloc (.cells #[.nilFunc, .nilFunc, .nilFunc, .nilFunc, .nilFunc, .nilFunc, .nilFunc] 186)).setCells w.heap.size 0 (deedA S).toList) w.heap.size S := by
  have h := heap_setCells w.heap.size 186 (deedA S).toList 0 _ _ (alloc_at w (.cells #[.nilFunc, .nilFunc, .nilFunc, .nilFunc, .nilFunc, .nilFunc, .nilFunc] 186))
  exact h
theorem deed_below (w : World) (S : Nat) : Below w.heap.size w ((w.alloc (.cells #[.nilFunc, .nilFunc, .nilFunc, .nilFunc, .nilFunc, .nilFunc, .nilFunc] 186)).setCells w.heap.size 0 (deedA S).toList) :=
  Below.setCells (below_new w _) (Nat.le_refl _) 0 _
theorem DBox.at1 {W : World} {N S : Nat} (h : DBox W N S) : W.cell? ⟨N, 1, none⟩ = some (.func (.func 127) #[.pointer (some ⟨S, 0, none⟩)] #[]) := by
  unfold DBox at h
  simp [World.cell?, h, deedA]
theorem DBox.at2 {W : World} {N S : Nat} (h : DBox W N S) : W.cell? ⟨N, 2, none⟩ = some (.func (.func 128) #[.pointer (some ⟨S, 0, none⟩)] #[]) := by
  unfold DBox at h
  simp [World.cell?, h, deedA]
theorem DBox.at3 {W : World} {N S : Nat} (h : DBox W N S) : W.cell? ⟨N, 3, none⟩ = some (.func (.func 129) #[.pointer (some ⟨S, 0, none⟩)] #[]) := by
  unfold DBox at h
  simp [World.cell?, h, deedA]
theorem DBox.at4 {W : World} {N S : Nat} (h : DBox W N S) : W.cell? ⟨N, 4, none⟩ = some (.func (.func 130) #[.pointer (some ⟨S, 0, none⟩)] #[]) := by
  unfold DBox at h
  simp [World.cell?, h, deedA]
theorem DBox.at5 {W : World} {N S : Nat} (h : DBox W N S) : W.cell? ⟨N, 5, none⟩ = some (.func (.func 131) #[.pointer (some ⟨S, 0, none⟩)] #[]) := by
  unfold DBox at h
  simp [World.cell?, h, deedA]
theorem DBox.at6 {W : World} {N S : Nat} (h : DBox W N S) : W.cell? ⟨N, 6, none⟩ = some (.func (.func 132) #[.pointer (some ⟨S, 0, none⟩)] #[]) := by
  unfold DBox at h
  simp [World.cell?, h, deedA]



set_option maxHeartbeats 16000000 in
set_option maxRecDepth 100000 in
theorem change0_any (c : IncV) (hok : okInc c = false) (B : Nat → Prop) (S g cap : Nat) (m : MapV) (w : World) (h : SheetG w B S g cap m) (hB : In B w) :
    Calls Try.prog 109 #[.pointer (some ⟨S, 0, none⟩), c.val] w (fun e w' => e = .returned (.bool false) ∧ SheetG w' B S g cap m ∧ Far B w w') := by
  have HIn := Lib.hid (fun u => Inc_any c u)
  rw [hok] at HIn
  have HSh := Lib.hid (fun u (hu : Below w.heap.size w u) => h.keep hu)
  obtain ⟨k, o, cl, n, a, b, p, d⟩ := c
  unfold IncV.val at HIn ⊢
  simp only at HIn ⊢
  have hb := below_new w (.cells #[.int .i64 k, .int .i64 o, .int .i64 cl, .int .i64 n, .int .i64 a, .int .i64 b, .int .i64 p, .int .i64 d] 87)
  have hx := ibx_new w ⟨k, o, cl, n, ⟨a, b, p, d⟩⟩
  have hmf : ∀ (fn : Fn) (first cap : Array Value) (w : World), (Instr.makeFunc fn first cap).run Try.prog w = .ok (.func fn first cap) w := fun _ _ _ _ => rfl
  have mixed : Try.prog.follows .mixedOrders = true := by kernel_rfl
  have HB := Lib.hid hb; have HX := Lib.hid hx; have HBB := Lib.hid hB
  clear hok h hB hb hx
  go_enter Try.func109, Try.ntmps109
  have HT := Lib.hid (deed_there (w.alloc (.cells #[.int .i64 k, .int .i64 o, .int .i64 cl, .int .i64 n, .int .i64 a, .int .i64 b, .int .i64 p, .int .i64 d] 87)))
  have HDs := Lib.hid (deed_set (w.alloc (.cells #[.int .i64 k, .int .i64 o, .int .i64 cl, .int .i64 n, .int .i64 a, .int .i64 b, .int .i64 p, .int .i64 d] 87)) S)
  have HBd := Lib.hid (deed_below (w.alloc (.cells #[.int .i64 k, .int .i64 o, .int .i64 cl, .int .i64 n, .int .i64 a, .int .i64 b, .int .i64 p, .int .i64 d] 87)) S)
  rw [World.size_alloc] at HT HDs HBd
  go_upto_region 2 with (refine wpList_store_mid rfl 186 _ _ rfl (w.heap.size + 1) 0 (deedA S) rfl rfl HT.out sizeDeed (deed_one S) ?_)
  have HX2 := Lib.hid (HX.out.keep (by rw [World.size_alloc]; exact HBd.out))
  have HB2 := Lib.hid (HB.out.trans (HBd.out.mono (by omega)))
  generalize World.setCells _ (w.heap.size + 1) 0 (deedA S).toList = W at HDs HX2 HB2 ⊢
  have HXd := Lib.hid (HX2.out.keep (below_drew (Below.refl _ _)))
  have HDd := Lib.hid (HDs.out.keep (below_drew (Below.refl _ _)))
  have HBw := Lib.hid (below_drew HB2.out)
  obtain ⟨c0, c1, c2, c3, c4, c5, c6, c7⟩ := HXd.out.cells
  simp only at c0 c1 c2 c3 c4 c5 c6 c7
  clear HT HBd HX HB HX2 HB2 HDs
  refine wp_region_held_drew (S := fun _ => True) (by kernel_rfl) (trivial) (fun hHeld => ?_)
  refine wpAnyH_ready (rs := [0]) (by kernel_rfl) (by simp) ?_
  refine AllReadyH.cons (o := { dst := some 19, op := Op.load 87 (Operand.tmp 3), type := 87, pos := "sheet.go:30", after := #[], guard := none }) rfl (fun K7 hK7 => ?_) ?_
  · go_simp
    refine hK7.out _ _ (trivial) (fun hHeld => ?_)
    clear hK7 K7
    try simp only [Act.put, List.setIfInBounds_toArray, List.set_cons_zero, List.set_cons_succ]
    refine wpAnyH_ready (rs := [1]) (by kernel_rfl) (by simp) ?_
    refine AllReadyH.cons (o := { dst := some 20, op := Op.call { callee := Callee.value (Operand.func 133), args := #[Operand.tmp 19], argTypes := #[87] }, type := 4, pos := "sheet.go:30", after := #[{ on := 0, ground := Ground.data }], guard := none }) rfl (fun K7 hK7 => ?_) ?_
    · go_simp
      refine (HIn.out _).mono ?_
      rintro e w5 ⟨rfl, hb⟩
      have HB5 := Lib.hid (HBw.out.trans (hb.mono HBw.out.size))
      have HX5 := Lib.hid (HXd.out.keep hb)
      have HD5 := Lib.hid (HDd.out.keep hb)
      clear hb c0 c1 c2 c3 c4 c5 c6 c7
      obtain ⟨c0, c1, c2, c3, c4, c5, c6, c7⟩ := HX5.out.cells
      simp only at c0 c1 c2 c3 c4 c5 c6 c7
      try dsimp only
      refine hK7.out _ _ (trivial) (fun hHeld => ?_)
      clear hK7 K7
      try simp only [Act.put, List.setIfInBounds_toArray, List.set_cons_zero, List.set_cons_succ]
      refine wpAnyH_take (i := 2) (oi := { dst := some 21, op := Op.move (Operand.tmp 20), type := 4, pos := "sheet.go:30", after := #[{ on := 1, ground := Ground.data }, { on := 1, ground := Ground.chain }], guard := none }) (v := ?_) rfl (by kernel_rfl) (by kernel_rfl) (by kernel_rfl) (fun _ _ _ h => h) (Or.inl ⟨by rfl, ?_⟩) hHeld ?_
      rotate_left 1
      · intro W hSw
        (try dsimp only at hSw)
        go_simp
        try with_reducible rfl
      try simp only [Act.put, List.setIfInBounds_toArray, List.set_cons_zero, List.set_cons_succ]
      refine wpAnyH_take (i := 3) (oi := { dst := some 22, op := Op.fieldAddr 87 (Operand.tmp 3) 0, type := 0, pos := "sheet.go:30", after := #[{ on := 2, ground := Ground.guard }], guard := some (2, true) }) (v := undef) rfl (by kernel_rfl) (by kernel_rfl) (by kernel_rfl) (fun _ _ _ h => h) (Or.inr ⟨by rfl, rfl⟩) hHeld ?_
      try simp only [Act.put, List.setIfInBounds_toArray, List.set_cons_zero, List.set_cons_succ]
      refine wpAnyH_take (i := 4) (oi := { dst := some 23, op := Op.load 3 (Operand.tmp 22), type := 3, pos := "sheet.go:30", after := #[{ on := 3, ground := Ground.data }, { on := 2, ground := Ground.guard }], guard := some (2, true) }) (v := undef) rfl (by kernel_rfl) (by kernel_rfl) (by kernel_rfl) (fun _ _ _ h => h) (Or.inr ⟨by rfl, rfl⟩) hHeld ?_
      try simp only [Act.put, List.setIfInBounds_toArray, List.set_cons_zero, List.set_cons_succ]
      refine wpAnyH_take (i := 5) (oi := { dst := some 24, op := Op.indexAddr 186 (Operand.tmp 5) (Operand.tmp 23), type := 0, pos := "sheet.go:30", after := #[{ on := 4, ground := Ground.data }, { on := 2, ground := Ground.guard }], guard := some (2, true) }) (v := undef) rfl (by kernel_rfl) (by kernel_rfl) (by kernel_rfl) (fun _ _ _ h => h) (Or.inr ⟨by rfl, rfl⟩) hHeld ?_
      try simp only [Act.put, List.setIfInBounds_toArray, List.set_cons_zero, List.set_cons_succ]
      refine wpAnyH_take (i := 6) (oi := { dst := some 25, op := Op.load 143 (Operand.tmp 24), type := 143, pos := "sheet.go:30", after := #[{ on := 5, ground := Ground.data }, { on := 2, ground := Ground.guard }], guard := some (2, true) }) (v := undef) rfl (by kernel_rfl) (by kernel_rfl) (by kernel_rfl) (fun _ _ _ h => h) (Or.inr ⟨by rfl, rfl⟩) hHeld ?_
      try simp only [Act.put, List.setIfInBounds_toArray, List.set_cons_zero, List.set_cons_succ]
      refine wpAnyH_take (i := 7) (oi := { dst := some 26, op := Op.load 87 (Operand.tmp 3), type := 87, pos := "sheet.go:30", after := #[{ on := 2, ground := Ground.guard }], guard := some (2, true) }) (v := undef) rfl (by kernel_rfl) (by kernel_rfl) (by kernel_rfl) (fun _ _ _ h => h) (Or.inr ⟨by rfl, rfl⟩) hHeld ?_
      try simp only [Act.put, List.setIfInBounds_toArray, List.set_cons_zero, List.set_cons_succ]
      refine wpAnyH_take (i := 8) (oi := { dst := some 27, op := Op.call { callee := Callee.value (Operand.tmp 25), args := #[Operand.tmp 26], argTypes := #[87] }, type := 4, pos := "sheet.go:30", after := #[{ on := 6, ground := Ground.data }, { on := 7, ground := Ground.data }, { on := 2, ground := Ground.chain }, { on := 2, ground := Ground.guard }], guard := some (2, true) }) (v := undef) rfl (by kernel_rfl) (by kernel_rfl) (by kernel_rfl) (fun _ _ _ h => h) (Or.inr ⟨by rfl, rfl⟩) hHeld ?_
      try simp only [Act.put, List.setIfInBounds_toArray, List.set_cons_zero, List.set_cons_succ]
      refine wpAnyH_take (i := 9) (oi := { dst := some 28, op := Op.pick (Operand.tmp 21) (Operand.tmp 27) (Operand.const (Value.bool false)), type := 4, pos := "sheet.go:30", after := #[{ on := 2, ground := Ground.data }, { on := 8, ground := Ground.data }], guard := none }) (v := ?_) rfl (by kernel_rfl) (by kernel_rfl) (by kernel_rfl) (fun _ _ _ h => h) (Or.inl ⟨by rfl, ?_⟩) hHeld ?_
      rotate_left 1
      · intro W hSw
        (try dsimp only at hSw)
        go_simp
        try with_reducible rfl
      try simp only [Act.put, List.setIfInBounds_toArray, List.set_cons_zero, List.set_cons_succ]
      refine wpAnyH_take (i := 10) (oi := { dst := some 4, op := Op.assign (Operand.tmp 28), type := 4, pos := "sheet.go:30", after := #[{ on := 9, ground := Ground.data }, { on := 8, ground := Ground.chain }, { on := 0, ground := Ground.phase }, { on := 1, ground := Ground.phase }, { on := 2, ground := Ground.phase }, { on := 3, ground := Ground.phase }, { on := 4, ground := Ground.phase }, { on := 5, ground := Ground.phase }, { on := 6, ground := Ground.phase }, { on := 7, ground := Ground.phase }, { on := 8, ground := Ground.phase }, { on := 9, ground := Ground.phase }], guard := none }) (v := ?_) rfl (by kernel_rfl) (by kernel_rfl) (by kernel_rfl) (fun _ _ _ h => h) (Or.inl ⟨by rfl, ?_⟩) hHeld ?_
      rotate_left 1
      · intro W hSw
        (try dsimp only at hSw)
        go_simp
        try with_reducible rfl
      try simp only [Act.put, List.setIfInBounds_toArray, List.set_cons_zero, List.set_cons_succ]
      refine wpAnyH_done (by kernel_rfl) ?_ _
      go_wp2
      go_ret
      exact ⟨rfl, HSh.out _ HB5.out, Far.of HB5.out HBB.out⟩
    exact AllReadyH.nil
  exact AllReadyH.nil

set_option maxHeartbeats 16000000 in
set_option maxRecDepth 100000 in
theorem change1_any (c : IncV) (hk : c.kind = 1) (i : Nat) (hc : c.osd = i) (hok : okInc c = true) (B : Nat → Prop) (S g cap : Nat) (m : MapV) (w : World) (h : SheetG w B S g cap m) (hB : In B w) :
    Calls Try.prog 109 #[.pointer (some ⟨S, 0, none⟩), c.val] w (StO B S g cap (setO bootO c.num i m) w) := by
  have HIn := Lib.hid (fun u => Inc_any c u)
  rw [hok] at HIn
  have HBo := Lib.hid (fun u (hu : Below w.heap.size w u) => boot_any c i hc B S g cap m u (h.keep hu) (hB.mono hu.size))
  obtain ⟨k, o, cl, n, a, b, p, d⟩ := c
  simp only at hc hk
  subst hc hk
  unfold IncV.val at HIn HBo ⊢
  simp only at HIn HBo ⊢
  have hb := below_new w (.cells #[.int .i64 1, .int .i64 i, .int .i64 cl, .int .i64 n, .int .i64 a, .int .i64 b, .int .i64 p, .int .i64 d] 87)
  have hx := ibx_new w ⟨1, i, cl, n, ⟨a, b, p, d⟩⟩
  have hmf : ∀ (fn : Fn) (first cap : Array Value) (w : World), (Instr.makeFunc fn first cap).run Try.prog w = .ok (.func fn first cap) w := fun _ _ _ _ => rfl
  have mixed : Try.prog.follows .mixedOrders = true := by kernel_rfl
  generalize setO bootO n i m = R at HBo ⊢
  have HB := Lib.hid hb; have HX := Lib.hid hx; have HBB := Lib.hid hB
  clear hok h hB hb hx
  go_enter Try.func109, Try.ntmps109
  have HT := Lib.hid (deed_there (w.alloc (.cells #[.int .i64 1, .int .i64 i, .int .i64 cl, .int .i64 n, .int .i64 a, .int .i64 b, .int .i64 p, .int .i64 d] 87)))
  have HDs := Lib.hid (deed_set (w.alloc (.cells #[.int .i64 1, .int .i64 i, .int .i64 cl, .int .i64 n, .int .i64 a, .int .i64 b, .int .i64 p, .int .i64 d] 87)) S)
  have HBd := Lib.hid (deed_below (w.alloc (.cells #[.int .i64 1, .int .i64 i, .int .i64 cl, .int .i64 n, .int .i64 a, .int .i64 b, .int .i64 p, .int .i64 d] 87)) S)
  rw [World.size_alloc] at HT HDs HBd
  go_upto_region 2 with (refine wpList_store_mid rfl 186 _ _ rfl (w.heap.size + 1) 0 (deedA S) rfl rfl HT.out sizeDeed (deed_one S) ?_)
  have HX2 := Lib.hid (HX.out.keep (by rw [World.size_alloc]; exact HBd.out))
  have HB2 := Lib.hid (HB.out.trans (HBd.out.mono (by omega)))
  generalize World.setCells _ (w.heap.size + 1) 0 (deedA S).toList = W at HDs HX2 HB2 ⊢
  have HXd := Lib.hid (HX2.out.keep (below_drew (Below.refl _ _)))
  have HDd := Lib.hid (HDs.out.keep (below_drew (Below.refl _ _)))
  have HBw := Lib.hid (below_drew HB2.out)
  obtain ⟨c0, c1, c2, c3, c4, c5, c6, c7⟩ := HXd.out.cells
  simp only at c0 c1 c2 c3 c4 c5 c6 c7
  clear HT HBd HX HB HX2 HB2 HDs
  refine wp_region_held_drew (S := fun _ => True) (by kernel_rfl) (trivial) (fun hHeld => ?_)
  refine wpAnyH_ready (rs := [0]) (by kernel_rfl) (by simp) ?_
  refine AllReadyH.cons (o := { dst := some 19, op := Op.load 87 (Operand.tmp 3), type := 87, pos := "sheet.go:30", after := #[], guard := none }) rfl (fun K7 hK7 => ?_) ?_
  · go_simp
    refine hK7.out _ _ (trivial) (fun hHeld => ?_)
    clear hK7 K7
    try simp only [Act.put, List.setIfInBounds_toArray, List.set_cons_zero, List.set_cons_succ]
    refine wpAnyH_ready (rs := [1]) (by kernel_rfl) (by simp) ?_
    refine AllReadyH.cons (o := { dst := some 20, op := Op.call { callee := Callee.value (Operand.func 133), args := #[Operand.tmp 19], argTypes := #[87] }, type := 4, pos := "sheet.go:30", after := #[{ on := 0, ground := Ground.data }], guard := none }) rfl (fun K7 hK7 => ?_) ?_
    · go_simp
      refine (HIn.out _).mono ?_
      rintro e w5 ⟨rfl, hb⟩
      have HB5 := Lib.hid (HBw.out.trans (hb.mono HBw.out.size))
      have HX5 := Lib.hid (HXd.out.keep hb)
      have HD5 := Lib.hid (HDd.out.keep hb)
      clear hb c0 c1 c2 c3 c4 c5 c6 c7
      obtain ⟨c0, c1, c2, c3, c4, c5, c6, c7⟩ := HX5.out.cells
      simp only at c0 c1 c2 c3 c4 c5 c6 c7
      have d0 := HD5.out.at1
      try dsimp only
      refine hK7.out _ _ (trivial) (fun hHeld => ?_)
      clear hK7 K7
      try simp only [Act.put, List.setIfInBounds_toArray, List.set_cons_zero, List.set_cons_succ]
      refine wpAnyH_take (i := 2) (oi := { dst := some 21, op := Op.move (Operand.tmp 20), type := 4, pos := "sheet.go:30", after := #[{ on := 1, ground := Ground.data }, { on := 1, ground := Ground.chain }], guard := none }) (v := ?_) rfl (by kernel_rfl) (by kernel_rfl) (by kernel_rfl) (fun _ _ _ h => h) (Or.inl ⟨by rfl, ?_⟩) hHeld ?_
      rotate_left 1
      · intro W hSw
        (try dsimp only at hSw)
        go_simp
        try with_reducible rfl
      try simp only [Act.put, List.setIfInBounds_toArray, List.set_cons_zero, List.set_cons_succ]
      refine wpAnyH_take (i := 3) (oi := { dst := some 22, op := Op.fieldAddr 87 (Operand.tmp 3) 0, type := 0, pos := "sheet.go:30", after := #[{ on := 2, ground := Ground.guard }], guard := some (2, true) }) (v := ?_) rfl (by kernel_rfl) (by kernel_rfl) (by kernel_rfl) (fun _ _ _ h => h) (Or.inl ⟨by rfl, ?_⟩) hHeld ?_
      rotate_left 1
      · intro W hSw
        (try dsimp only at hSw)
        go_simp
        try with_reducible rfl
      try simp only [Act.put, List.setIfInBounds_toArray, List.set_cons_zero, List.set_cons_succ]
      refine wpAnyH_ready (rs := [4, 7]) (by kernel_rfl) (by simp) ?_
      refine AllReadyH.cons (o := { dst := some 23, op := Op.load 3 (Operand.tmp 22), type := 3, pos := "sheet.go:30", after := #[{ on := 3, ground := Ground.data }, { on := 2, ground := Ground.guard }], guard := some (2, true) }) rfl (fun K7 hK7 => ?_) ?_
      · go_simp
        refine hK7.out _ _ (trivial) (fun hHeld => ?_)
        clear hK7 K7
        try simp only [Act.put, List.setIfInBounds_toArray, List.set_cons_zero, List.set_cons_succ]
        refine wpAnyH_take (i := 5) (oi := { dst := some 24, op := Op.indexAddr 186 (Operand.tmp 5) (Operand.tmp 23), type := 0, pos := "sheet.go:30", after := #[{ on := 4, ground := Ground.data }, { on := 2, ground := Ground.guard }], guard := some (2, true) }) (v := ?_) rfl (by kernel_rfl) (by kernel_rfl) (by kernel_rfl) (fun _ _ _ h => h) (Or.inl ⟨by rfl, ?_⟩) hHeld ?_
        rotate_left 1
        · intro W hSw
          (try dsimp only at hSw)
          go_simp
          try with_reducible rfl
        try simp only [Act.put, List.setIfInBounds_toArray, List.set_cons_zero, List.set_cons_succ]
        refine wpAnyH_ready (rs := [6, 7]) (by kernel_rfl) (by simp) ?_
        refine AllReadyH.cons (o := { dst := some 25, op := Op.load 143 (Operand.tmp 24), type := 143, pos := "sheet.go:30", after := #[{ on := 5, ground := Ground.data }, { on := 2, ground := Ground.guard }], guard := some (2, true) }) rfl (fun K7 hK7 => ?_) ?_
        · go_simp
          refine hK7.out _ _ (trivial) (fun hHeld => ?_)
          clear hK7 K7
          try simp only [Act.put, List.setIfInBounds_toArray, List.set_cons_zero, List.set_cons_succ]
          refine wpAnyH_ready (rs := [7]) (by kernel_rfl) (by simp) ?_
          refine AllReadyH.cons (o := { dst := some 26, op := Op.load 87 (Operand.tmp 3), type := 87, pos := "sheet.go:30", after := #[{ on := 2, ground := Ground.guard }], guard := some (2, true) }) rfl (fun K7 hK7 => ?_) ?_
          · go_simp
            refine hK7.out _ _ (trivial) (fun hHeld => ?_)
            clear hK7 K7
            try simp only [Act.put, List.setIfInBounds_toArray, List.set_cons_zero, List.set_cons_succ]
            refine wpAnyH_ready (rs := [8]) (by kernel_rfl) (by simp) ?_
            refine AllReadyH.cons (o := { dst := some 27, op := Op.call { callee := Callee.value (Operand.tmp 25), args := #[Operand.tmp 26], argTypes := #[87] }, type := 4, pos := "sheet.go:30", after := #[{ on := 6, ground := Ground.data }, { on := 7, ground := Ground.data }, { on := 2, ground := Ground.chain }, { on := 2, ground := Ground.guard }], guard := some (2, true) }) rfl (fun K7 hK7 => ?_) ?_
            · go_simp
              refine (HBo.out _ HB5.out).mono ?_
              rintro e w6 ⟨rfl, hg, hb⟩
              have HG6 := Lib.hid hg
              have HB6 := Lib.hid ((Far.of HB5.out HBB.out).trans hb)
              clear hg hb
              try dsimp only
              refine hK7.out _ _ (trivial) (fun hHeld => ?_)
              clear hK7 K7
              try simp only [Act.put, List.setIfInBounds_toArray, List.set_cons_zero, List.set_cons_succ]
              refine wpAnyH_take (i := 9) (oi := { dst := some 28, op := Op.pick (Operand.tmp 21) (Operand.tmp 27) (Operand.const (Value.bool false)), type := 4, pos := "sheet.go:30", after := #[{ on := 2, ground := Ground.data }, { on := 8, ground := Ground.data }], guard := none }) (v := ?_) rfl (by kernel_rfl) (by kernel_rfl) (by kernel_rfl) (fun _ _ _ h => h) (Or.inl ⟨by rfl, ?_⟩) hHeld ?_
              rotate_left 1
              · intro W hSw
                (try dsimp only at hSw)
                go_simp
                try with_reducible rfl
              try simp only [Act.put, List.setIfInBounds_toArray, List.set_cons_zero, List.set_cons_succ]
              refine wpAnyH_take (i := 10) (oi := { dst := some 4, op := Op.assign (Operand.tmp 28), type := 4, pos := "sheet.go:30", after := #[{ on := 9, ground := Ground.data }, { on := 8, ground := Ground.chain }, { on := 0, ground := Ground.phase }, { on := 1, ground := Ground.phase }, { on := 2, ground := Ground.phase }, { on := 3, ground := Ground.phase }, { on := 4, ground := Ground.phase }, { on := 5, ground := Ground.phase }, { on := 6, ground := Ground.phase }, { on := 7, ground := Ground.phase }, { on := 8, ground := Ground.phase }, { on := 9, ground := Ground.phase }], guard := none }) (v := ?_) rfl (by kernel_rfl) (by kernel_rfl) (by kernel_rfl) (fun _ _ _ h => h) (Or.inl ⟨by rfl, ?_⟩) hHeld ?_
              rotate_left 1
              · intro W hSw
                (try dsimp only at hSw)
                go_simp
                try with_reducible rfl
              try simp only [Act.put, List.setIfInBounds_toArray, List.set_cons_zero, List.set_cons_succ]
              refine wpAnyH_done (by kernel_rfl) ?_ _
              go_wp2
              go_ret
              exact ⟨rfl, HG6.out, HB6.out⟩
            exact AllReadyH.nil
          exact AllReadyH.nil
        refine AllReadyH.cons (o := { dst := some 26, op := Op.load 87 (Operand.tmp 3), type := 87, pos := "sheet.go:30", after := #[{ on := 2, ground := Ground.guard }], guard := some (2, true) }) rfl (fun K7 hK7 => ?_) ?_
        · go_simp
          refine hK7.out _ _ (trivial) (fun hHeld => ?_)
          clear hK7 K7
          try simp only [Act.put, List.setIfInBounds_toArray, List.set_cons_zero, List.set_cons_succ]
          refine wpAnyH_ready (rs := [6]) (by kernel_rfl) (by simp) ?_
          refine AllReadyH.cons (o := { dst := some 25, op := Op.load 143 (Operand.tmp 24), type := 143, pos := "sheet.go:30", after := #[{ on := 5, ground := Ground.data }, { on := 2, ground := Ground.guard }], guard := some (2, true) }) rfl (fun K7 hK7 => ?_) ?_
          · go_simp
            refine hK7.out _ _ (trivial) (fun hHeld => ?_)
            clear hK7 K7
            try simp only [Act.put, List.setIfInBounds_toArray, List.set_cons_zero, List.set_cons_succ]
            refine wpAnyH_ready (rs := [8]) (by kernel_rfl) (by simp) ?_
            refine AllReadyH.cons (o := { dst := some 27, op := Op.call { callee := Callee.value (Operand.tmp 25), args := #[Operand.tmp 26], argTypes := #[87] }, type := 4, pos := "sheet.go:30", after := #[{ on := 6, ground := Ground.data }, { on := 7, ground := Ground.data }, { on := 2, ground := Ground.chain }, { on := 2, ground := Ground.guard }], guard := some (2, true) }) rfl (fun K7 hK7 => ?_) ?_
            · go_simp
              refine (HBo.out _ HB5.out).mono ?_
              rintro e w6 ⟨rfl, hg, hb⟩
              have HG6 := Lib.hid hg
              have HB6 := Lib.hid ((Far.of HB5.out HBB.out).trans hb)
              clear hg hb
              try dsimp only
              refine hK7.out _ _ (trivial) (fun hHeld => ?_)
              clear hK7 K7
              try simp only [Act.put, List.setIfInBounds_toArray, List.set_cons_zero, List.set_cons_succ]
              refine wpAnyH_take (i := 9) (oi := { dst := some 28, op := Op.pick (Operand.tmp 21) (Operand.tmp 27) (Operand.const (Value.bool false)), type := 4, pos := "sheet.go:30", after := #[{ on := 2, ground := Ground.data }, { on := 8, ground := Ground.data }], guard := none }) (v := ?_) rfl (by kernel_rfl) (by kernel_rfl) (by kernel_rfl) (fun _ _ _ h => h) (Or.inl ⟨by rfl, ?_⟩) hHeld ?_
              rotate_left 1
              · intro W hSw
                (try dsimp only at hSw)
                go_simp
                try with_reducible rfl
              try simp only [Act.put, List.setIfInBounds_toArray, List.set_cons_zero, List.set_cons_succ]
              refine wpAnyH_take (i := 10) (oi := { dst := some 4, op := Op.assign (Operand.tmp 28), type := 4, pos := "sheet.go:30", after := #[{ on := 9, ground := Ground.data }, { on := 8, ground := Ground.chain }, { on := 0, ground := Ground.phase }, { on := 1, ground := Ground.phase }, { on := 2, ground := Ground.phase }, { on := 3, ground := Ground.phase }, { on := 4, ground := Ground.phase }, { on := 5, ground := Ground.phase }, { on := 6, ground := Ground.phase }, { on := 7, ground := Ground.phase }, { on := 8, ground := Ground.phase }, { on := 9, ground := Ground.phase }], guard := none }) (v := ?_) rfl (by kernel_rfl) (by kernel_rfl) (by kernel_rfl) (fun _ _ _ h => h) (Or.inl ⟨by rfl, ?_⟩) hHeld ?_
              rotate_left 1
              · intro W hSw
                (try dsimp only at hSw)
                go_simp
                try with_reducible rfl
              try simp only [Act.put, List.setIfInBounds_toArray, List.set_cons_zero, List.set_cons_succ]
              refine wpAnyH_done (by kernel_rfl) ?_ _
              go_wp2
              go_ret
              exact ⟨rfl, HG6.out, HB6.out⟩
            exact AllReadyH.nil
          exact AllReadyH.nil
        exact AllReadyH.nil
      refine AllReadyH.cons (o := { dst := some 26, op := Op.load 87 (Operand.tmp 3), type := 87, pos := "sheet.go:30", after := #[{ on := 2, ground := Ground.guard }], guard := some (2, true) }) rfl (fun K7 hK7 => ?_) ?_
      · go_simp
        refine hK7.out _ _ (trivial) (fun hHeld => ?_)
        clear hK7 K7
        try simp only [Act.put, List.setIfInBounds_toArray, List.set_cons_zero, List.set_cons_succ]
        refine wpAnyH_ready (rs := [4]) (by kernel_rfl) (by simp) ?_
        refine AllReadyH.cons (o := { dst := some 23, op := Op.load 3 (Operand.tmp 22), type := 3, pos := "sheet.go:30", after := #[{ on := 3, ground := Ground.data }, { on := 2, ground := Ground.guard }], guard := some (2, true) }) rfl (fun K7 hK7 => ?_) ?_
        · go_simp
          refine hK7.out _ _ (trivial) (fun hHeld => ?_)
          clear hK7 K7
          try simp only [Act.put, List.setIfInBounds_toArray, List.set_cons_zero, List.set_cons_succ]
          refine wpAnyH_take (i := 5) (oi := { dst := some 24, op := Op.indexAddr 186 (Operand.tmp 5) (Operand.tmp 23), type := 0, pos := "sheet.go:30", after := #[{ on := 4, ground := Ground.data }, { on := 2, ground := Ground.guard }], guard := some (2, true) }) (v := ?_) rfl (by kernel_rfl) (by kernel_rfl) (by kernel_rfl) (fun _ _ _ h => h) (Or.inl ⟨by rfl, ?_⟩) hHeld ?_
          rotate_left 1
          · intro W hSw
            (try dsimp only at hSw)
            go_simp
            try with_reducible rfl
          try simp only [Act.put, List.setIfInBounds_toArray, List.set_cons_zero, List.set_cons_succ]
          refine wpAnyH_ready (rs := [6]) (by kernel_rfl) (by simp) ?_
          refine AllReadyH.cons (o := { dst := some 25, op := Op.load 143 (Operand.tmp 24), type := 143, pos := "sheet.go:30", after := #[{ on := 5, ground := Ground.data }, { on := 2, ground := Ground.guard }], guard := some (2, true) }) rfl (fun K7 hK7 => ?_) ?_
          · go_simp
            refine hK7.out _ _ (trivial) (fun hHeld => ?_)
            clear hK7 K7
            try simp only [Act.put, List.setIfInBounds_toArray, List.set_cons_zero, List.set_cons_succ]
            refine wpAnyH_ready (rs := [8]) (by kernel_rfl) (by simp) ?_
            refine AllReadyH.cons (o := { dst := some 27, op := Op.call { callee := Callee.value (Operand.tmp 25), args := #[Operand.tmp 26], argTypes := #[87] }, type := 4, pos := "sheet.go:30", after := #[{ on := 6, ground := Ground.data }, { on := 7, ground := Ground.data }, { on := 2, ground := Ground.chain }, { on := 2, ground := Ground.guard }], guard := some (2, true) }) rfl (fun K7 hK7 => ?_) ?_
            · go_simp
              refine (HBo.out _ HB5.out).mono ?_
              rintro e w6 ⟨rfl, hg, hb⟩
              have HG6 := Lib.hid hg
              have HB6 := Lib.hid ((Far.of HB5.out HBB.out).trans hb)
              clear hg hb
              try dsimp only
              refine hK7.out _ _ (trivial) (fun hHeld => ?_)
              clear hK7 K7
              try simp only [Act.put, List.setIfInBounds_toArray, List.set_cons_zero, List.set_cons_succ]
              refine wpAnyH_take (i := 9) (oi := { dst := some 28, op := Op.pick (Operand.tmp 21) (Operand.tmp 27) (Operand.const (Value.bool false)), type := 4, pos := "sheet.go:30", after := #[{ on := 2, ground := Ground.data }, { on := 8, ground := Ground.data }], guard := none }) (v := ?_) rfl (by kernel_rfl) (by kernel_rfl) (by kernel_rfl) (fun _ _ _ h => h) (Or.inl ⟨by rfl, ?_⟩) hHeld ?_
              rotate_left 1
              · intro W hSw
                (try dsimp only at hSw)
                go_simp
                try with_reducible rfl
              try simp only [Act.put, List.setIfInBounds_toArray, List.set_cons_zero, List.set_cons_succ]
              refine wpAnyH_take (i := 10) (oi := { dst := some 4, op := Op.assign (Operand.tmp 28), type := 4, pos := "sheet.go:30", after := #[{ on := 9, ground := Ground.data }, { on := 8, ground := Ground.chain }, { on := 0, ground := Ground.phase }, { on := 1, ground := Ground.phase }, { on := 2, ground := Ground.phase }, { on := 3, ground := Ground.phase }, { on := 4, ground := Ground.phase }, { on := 5, ground := Ground.phase }, { on := 6, ground := Ground.phase }, { on := 7, ground := Ground.phase }, { on := 8, ground := Ground.phase }, { on := 9, ground := Ground.phase }], guard := none }) (v := ?_) rfl (by kernel_rfl) (by kernel_rfl) (by kernel_rfl) (fun _ _ _ h => h) (Or.inl ⟨by rfl, ?_⟩) hHeld ?_
              rotate_left 1
              · intro W hSw
                (try dsimp only at hSw)
                go_simp
                try with_reducible rfl
              try simp only [Act.put, List.setIfInBounds_toArray, List.set_cons_zero, List.set_cons_succ]
              refine wpAnyH_done (by kernel_rfl) ?_ _
              go_wp2
              go_ret
              exact ⟨rfl, HG6.out, HB6.out⟩
            exact AllReadyH.nil
          exact AllReadyH.nil
        exact AllReadyH.nil
      exact AllReadyH.nil
    exact AllReadyH.nil
  exact AllReadyH.nil

set_option maxHeartbeats 16000000 in
set_option maxRecDepth 100000 in
theorem change2_any (c : IncV) (hk : c.kind = 2) (i : Nat) (hc : c.osd = i) (hok : okInc c = true) (B : Nat → Prop) (S g cap : Nat) (m : MapV) (w : World) (h : SheetG w B S g cap m) (hB : In B w) :
    Calls Try.prog 109 #[.pointer (some ⟨S, 0, none⟩), c.val] w (StO B S g cap (setO downO c.num i m) w) := by
  have HIn := Lib.hid (fun u => Inc_any c u)
  rw [hok] at HIn
  have HBo := Lib.hid (fun u (hu : Below w.heap.size w u) => down_any c i hc B S g cap m u (h.keep hu) (hB.mono hu.size))
  obtain ⟨k, o, cl, n, a, b, p, d⟩ := c
  simp only at hc hk
  subst hc hk
  unfold IncV.val at HIn HBo ⊢
  simp only at HIn HBo ⊢
  have hb := below_new w (.cells #[.int .i64 2, .int .i64 i, .int .i64 cl, .int .i64 n, .int .i64 a, .int .i64 b, .int .i64 p, .int .i64 d] 87)
  have hx := ibx_new w ⟨2, i, cl, n, ⟨a, b, p, d⟩⟩
  have hmf : ∀ (fn : Fn) (first cap : Array Value) (w : World), (Instr.makeFunc fn first cap).run Try.prog w = .ok (.func fn first cap) w := fun _ _ _ _ => rfl
  have mixed : Try.prog.follows .mixedOrders = true := by kernel_rfl
  generalize setO downO n i m = R at HBo ⊢
  have HB := Lib.hid hb; have HX := Lib.hid hx; have HBB := Lib.hid hB
  clear hok h hB hb hx
  go_enter Try.func109, Try.ntmps109
  have HT := Lib.hid (deed_there (w.alloc (.cells #[.int .i64 2, .int .i64 i, .int .i64 cl, .int .i64 n, .int .i64 a, .int .i64 b, .int .i64 p, .int .i64 d] 87)))
  have HDs := Lib.hid (deed_set (w.alloc (.cells #[.int .i64 2, .int .i64 i, .int .i64 cl, .int .i64 n, .int .i64 a, .int .i64 b, .int .i64 p, .int .i64 d] 87)) S)
  have HBd := Lib.hid (deed_below (w.alloc (.cells #[.int .i64 2, .int .i64 i, .int .i64 cl, .int .i64 n, .int .i64 a, .int .i64 b, .int .i64 p, .int .i64 d] 87)) S)
  rw [World.size_alloc] at HT HDs HBd
  go_upto_region 2 with (refine wpList_store_mid rfl 186 _ _ rfl (w.heap.size + 1) 0 (deedA S) rfl rfl HT.out sizeDeed (deed_one S) ?_)
  have HX2 := Lib.hid (HX.out.keep (by rw [World.size_alloc]; exact HBd.out))
  have HB2 := Lib.hid (HB.out.trans (HBd.out.mono (by omega)))
  generalize World.setCells _ (w.heap.size + 1) 0 (deedA S).toList = W at HDs HX2 HB2 ⊢
  have HXd := Lib.hid (HX2.out.keep (below_drew (Below.refl _ _)))
  have HDd := Lib.hid (HDs.out.keep (below_drew (Below.refl _ _)))
  have HBw := Lib.hid (below_drew HB2.out)
  obtain ⟨c0, c1, c2, c3, c4, c5, c6, c7⟩ := HXd.out.cells
  simp only at c0 c1 c2 c3 c4 c5 c6 c7
  clear HT HBd HX HB HX2 HB2 HDs
  refine wp_region_held_drew (S := fun _ => True) (by kernel_rfl) (trivial) (fun hHeld => ?_)
  refine wpAnyH_ready (rs := [0]) (by kernel_rfl) (by simp) ?_
  refine AllReadyH.cons (o := { dst := some 19, op := Op.load 87 (Operand.tmp 3), type := 87, pos := "sheet.go:30", after := #[], guard := none }) rfl (fun K7 hK7 => ?_) ?_
  · go_simp
    refine hK7.out _ _ (trivial) (fun hHeld => ?_)
    clear hK7 K7
    try simp only [Act.put, List.setIfInBounds_toArray, List.set_cons_zero, List.set_cons_succ]
    refine wpAnyH_ready (rs := [1]) (by kernel_rfl) (by simp) ?_
    refine AllReadyH.cons (o := { dst := some 20, op := Op.call { callee := Callee.value (Operand.func 133), args := #[Operand.tmp 19], argTypes := #[87] }, type := 4, pos := "sheet.go:30", after := #[{ on := 0, ground := Ground.data }], guard := none }) rfl (fun K7 hK7 => ?_) ?_
    · go_simp
      refine (HIn.out _).mono ?_
      rintro e w5 ⟨rfl, hb⟩
      have HB5 := Lib.hid (HBw.out.trans (hb.mono HBw.out.size))
      have HX5 := Lib.hid (HXd.out.keep hb)
      have HD5 := Lib.hid (HDd.out.keep hb)
      clear hb c0 c1 c2 c3 c4 c5 c6 c7
      obtain ⟨c0, c1, c2, c3, c4, c5, c6, c7⟩ := HX5.out.cells
      simp only at c0 c1 c2 c3 c4 c5 c6 c7
      have d0 := HD5.out.at2
      try dsimp only
      refine hK7.out _ _ (trivial) (fun hHeld => ?_)
      clear hK7 K7
      try simp only [Act.put, List.setIfInBounds_toArray, List.set_cons_zero, List.set_cons_succ]
      refine wpAnyH_take (i := 2) (oi := { dst := some 21, op := Op.move (Operand.tmp 20), type := 4, pos := "sheet.go:30", after := #[{ on := 1, ground := Ground.data }, { on := 1, ground := Ground.chain }], guard := none }) (v := ?_) rfl (by kernel_rfl) (by kernel_rfl) (by kernel_rfl) (fun _ _ _ h => h) (Or.inl ⟨by rfl, ?_⟩) hHeld ?_
      rotate_left 1
      · intro W hSw
        (try dsimp only at hSw)
        go_simp
        try with_reducible rfl
      try simp only [Act.put, List.setIfInBounds_toArray, List.set_cons_zero, List.set_cons_succ]
      refine wpAnyH_take (i := 3) (oi := { dst := some 22, op := Op.fieldAddr 87 (Operand.tmp 3) 0, type := 0, pos := "sheet.go:30", after := #[{ on := 2, ground := Ground.guard }], guard := some (2, true) }) (v := ?_) rfl (by kernel_rfl) (by kernel_rfl) (by kernel_rfl) (fun _ _ _ h => h) (Or.inl ⟨by rfl, ?_⟩) hHeld ?_
      rotate_left 1
      · intro W hSw
        (try dsimp only at hSw)
        go_simp
        try with_reducible rfl
      try simp only [Act.put, List.setIfInBounds_toArray, List.set_cons_zero, List.set_cons_succ]
      refine wpAnyH_ready (rs := [4, 7]) (by kernel_rfl) (by simp) ?_
      refine AllReadyH.cons (o := { dst := some 23, op := Op.load 3 (Operand.tmp 22), type := 3, pos := "sheet.go:30", after := #[{ on := 3, ground := Ground.data }, { on := 2, ground := Ground.guard }], guard := some (2, true) }) rfl (fun K7 hK7 => ?_) ?_
      · go_simp
        refine hK7.out _ _ (trivial) (fun hHeld => ?_)
        clear hK7 K7
        try simp only [Act.put, List.setIfInBounds_toArray, List.set_cons_zero, List.set_cons_succ]
        refine wpAnyH_take (i := 5) (oi := { dst := some 24, op := Op.indexAddr 186 (Operand.tmp 5) (Operand.tmp 23), type := 0, pos := "sheet.go:30", after := #[{ on := 4, ground := Ground.data }, { on := 2, ground := Ground.guard }], guard := some (2, true) }) (v := ?_) rfl (by kernel_rfl) (by kernel_rfl) (by kernel_rfl) (fun _ _ _ h => h) (Or.inl ⟨by rfl, ?_⟩) hHeld ?_
        rotate_left 1
        · intro W hSw
          (try dsimp only at hSw)
          go_simp
          try with_reducible rfl
        try simp only [Act.put, List.setIfInBounds_toArray, List.set_cons_zero, List.set_cons_succ]
        refine wpAnyH_ready (rs := [6, 7]) (by kernel_rfl) (by simp) ?_
        refine AllReadyH.cons (o := { dst := some 25, op := Op.load 143 (Operand.tmp 24), type := 143, pos := "sheet.go:30", after := #[{ on := 5, ground := Ground.data }, { on := 2, ground := Ground.guard }], guard := some (2, true) }) rfl (fun K7 hK7 => ?_) ?_
        · go_simp
          refine hK7.out _ _ (trivial) (fun hHeld => ?_)
          clear hK7 K7
          try simp only [Act.put, List.setIfInBounds_toArray, List.set_cons_zero, List.set_cons_succ]
          refine wpAnyH_ready (rs := [7]) (by kernel_rfl) (by simp) ?_
          refine AllReadyH.cons (o := { dst := some 26, op := Op.load 87 (Operand.tmp 3), type := 87, pos := "sheet.go:30", after := #[{ on := 2, ground := Ground.guard }], guard := some (2, true) }) rfl (fun K7 hK7 => ?_) ?_
          · go_simp
            refine hK7.out _ _ (trivial) (fun hHeld => ?_)
            clear hK7 K7
            try simp only [Act.put, List.setIfInBounds_toArray, List.set_cons_zero, List.set_cons_succ]
            refine wpAnyH_ready (rs := [8]) (by kernel_rfl) (by simp) ?_
            refine AllReadyH.cons (o := { dst := some 27, op := Op.call { callee := Callee.value (Operand.tmp 25), args := #[Operand.tmp 26], argTypes := #[87] }, type := 4, pos := "sheet.go:30", after := #[{ on := 6, ground := Ground.data }, { on := 7, ground := Ground.data }, { on := 2, ground := Ground.chain }, { on := 2, ground := Ground.guard }], guard := some (2, true) }) rfl (fun K7 hK7 => ?_) ?_
            · go_simp
              refine (HBo.out _ HB5.out).mono ?_
              rintro e w6 ⟨rfl, hg, hb⟩
              have HG6 := Lib.hid hg
              have HB6 := Lib.hid ((Far.of HB5.out HBB.out).trans hb)
              clear hg hb
              try dsimp only
              refine hK7.out _ _ (trivial) (fun hHeld => ?_)
              clear hK7 K7
              try simp only [Act.put, List.setIfInBounds_toArray, List.set_cons_zero, List.set_cons_succ]
              refine wpAnyH_take (i := 9) (oi := { dst := some 28, op := Op.pick (Operand.tmp 21) (Operand.tmp 27) (Operand.const (Value.bool false)), type := 4, pos := "sheet.go:30", after := #[{ on := 2, ground := Ground.data }, { on := 8, ground := Ground.data }], guard := none }) (v := ?_) rfl (by kernel_rfl) (by kernel_rfl) (by kernel_rfl) (fun _ _ _ h => h) (Or.inl ⟨by rfl, ?_⟩) hHeld ?_
              rotate_left 1
              · intro W hSw
                (try dsimp only at hSw)
                go_simp
                try with_reducible rfl
              try simp only [Act.put, List.setIfInBounds_toArray, List.set_cons_zero, List.set_cons_succ]
              refine wpAnyH_take (i := 10) (oi := { dst := some 4, op := Op.assign (Operand.tmp 28), type := 4, pos := "sheet.go:30", after := #[{ on := 9, ground := Ground.data }, { on := 8, ground := Ground.chain }, { on := 0, ground := Ground.phase }, { on := 1, ground := Ground.phase }, { on := 2, ground := Ground.phase }, { on := 3, ground := Ground.phase }, { on := 4, ground := Ground.phase }, { on := 5, ground := Ground.phase }, { on := 6, ground := Ground.phase }, { on := 7, ground := Ground.phase }, { on := 8, ground := Ground.phase }, { on := 9, ground := Ground.phase }], guard := none }) (v := ?_) rfl (by kernel_rfl) (by kernel_rfl) (by kernel_rfl) (fun _ _ _ h => h) (Or.inl ⟨by rfl, ?_⟩) hHeld ?_
              rotate_left 1
              · intro W hSw
                (try dsimp only at hSw)
                go_simp
                try with_reducible rfl
              try simp only [Act.put, List.setIfInBounds_toArray, List.set_cons_zero, List.set_cons_succ]
              refine wpAnyH_done (by kernel_rfl) ?_ _
              go_wp2
              go_ret
              exact ⟨rfl, HG6.out, HB6.out⟩
            exact AllReadyH.nil
          exact AllReadyH.nil
        refine AllReadyH.cons (o := { dst := some 26, op := Op.load 87 (Operand.tmp 3), type := 87, pos := "sheet.go:30", after := #[{ on := 2, ground := Ground.guard }], guard := some (2, true) }) rfl (fun K7 hK7 => ?_) ?_
        · go_simp
          refine hK7.out _ _ (trivial) (fun hHeld => ?_)
          clear hK7 K7
          try simp only [Act.put, List.setIfInBounds_toArray, List.set_cons_zero, List.set_cons_succ]
          refine wpAnyH_ready (rs := [6]) (by kernel_rfl) (by simp) ?_
          refine AllReadyH.cons (o := { dst := some 25, op := Op.load 143 (Operand.tmp 24), type := 143, pos := "sheet.go:30", after := #[{ on := 5, ground := Ground.data }, { on := 2, ground := Ground.guard }], guard := some (2, true) }) rfl (fun K7 hK7 => ?_) ?_
          · go_simp
            refine hK7.out _ _ (trivial) (fun hHeld => ?_)
            clear hK7 K7
            try simp only [Act.put, List.setIfInBounds_toArray, List.set_cons_zero, List.set_cons_succ]
            refine wpAnyH_ready (rs := [8]) (by kernel_rfl) (by simp) ?_
            refine AllReadyH.cons (o := { dst := some 27, op := Op.call { callee := Callee.value (Operand.tmp 25), args := #[Operand.tmp 26], argTypes := #[87] }, type := 4, pos := "sheet.go:30", after := #[{ on := 6, ground := Ground.data }, { on := 7, ground := Ground.data }, { on := 2, ground := Ground.chain }, { on := 2, ground := Ground.guard }], guard := some (2, true) }) rfl (fun K7 hK7 => ?_) ?_
            · go_simp
              refine (HBo.out _ HB5.out).mono ?_
              rintro e w6 ⟨rfl, hg, hb⟩
              have HG6 := Lib.hid hg
              have HB6 := Lib.hid ((Far.of HB5.out HBB.out).trans hb)
              clear hg hb
              try dsimp only
              refine hK7.out _ _ (trivial) (fun hHeld => ?_)
              clear hK7 K7
              try simp only [Act.put, List.setIfInBounds_toArray, List.set_cons_zero, List.set_cons_succ]
              refine wpAnyH_take (i := 9) (oi := { dst := some 28, op := Op.pick (Operand.tmp 21) (Operand.tmp 27) (Operand.const (Value.bool false)), type := 4, pos := "sheet.go:30", after := #[{ on := 2, ground := Ground.data }, { on := 8, ground := Ground.data }], guard := none }) (v := ?_) rfl (by kernel_rfl) (by kernel_rfl) (by kernel_rfl) (fun _ _ _ h => h) (Or.inl ⟨by rfl, ?_⟩) hHeld ?_
              rotate_left 1
              · intro W hSw
                (try dsimp only at hSw)
                go_simp
                try with_reducible rfl
              try simp only [Act.put, List.setIfInBounds_toArray, List.set_cons_zero, List.set_cons_succ]
              refine wpAnyH_take (i := 10) (oi := { dst := some 4, op := Op.assign (Operand.tmp 28), type := 4, pos := "sheet.go:30", after := #[{ on := 9, ground := Ground.data }, { on := 8, ground := Ground.chain }, { on := 0, ground := Ground.phase }, { on := 1, ground := Ground.phase }, { on := 2, ground := Ground.phase }, { on := 3, ground := Ground.phase }, { on := 4, ground := Ground.phase }, { on := 5, ground := Ground.phase }, { on := 6, ground := Ground.phase }, { on := 7, ground := Ground.phase }, { on := 8, ground := Ground.phase }, { on := 9, ground := Ground.phase }], guard := none }) (v := ?_) rfl (by kernel_rfl) (by kernel_rfl) (by kernel_rfl) (fun _ _ _ h => h) (Or.inl ⟨by rfl, ?_⟩) hHeld ?_
              rotate_left 1
              · intro W hSw
                (try dsimp only at hSw)
                go_simp
                try with_reducible rfl
              try simp only [Act.put, List.setIfInBounds_toArray, List.set_cons_zero, List.set_cons_succ]
              refine wpAnyH_done (by kernel_rfl) ?_ _
              go_wp2
              go_ret
              exact ⟨rfl, HG6.out, HB6.out⟩
            exact AllReadyH.nil
          exact AllReadyH.nil
        exact AllReadyH.nil
      refine AllReadyH.cons (o := { dst := some 26, op := Op.load 87 (Operand.tmp 3), type := 87, pos := "sheet.go:30", after := #[{ on := 2, ground := Ground.guard }], guard := some (2, true) }) rfl (fun K7 hK7 => ?_) ?_
      · go_simp
        refine hK7.out _ _ (trivial) (fun hHeld => ?_)
        clear hK7 K7
        try simp only [Act.put, List.setIfInBounds_toArray, List.set_cons_zero, List.set_cons_succ]
        refine wpAnyH_ready (rs := [4]) (by kernel_rfl) (by simp) ?_
        refine AllReadyH.cons (o := { dst := some 23, op := Op.load 3 (Operand.tmp 22), type := 3, pos := "sheet.go:30", after := #[{ on := 3, ground := Ground.data }, { on := 2, ground := Ground.guard }], guard := some (2, true) }) rfl (fun K7 hK7 => ?_) ?_
        · go_simp
          refine hK7.out _ _ (trivial) (fun hHeld => ?_)
          clear hK7 K7
          try simp only [Act.put, List.setIfInBounds_toArray, List.set_cons_zero, List.set_cons_succ]
          refine wpAnyH_take (i := 5) (oi := { dst := some 24, op := Op.indexAddr 186 (Operand.tmp 5) (Operand.tmp 23), type := 0, pos := "sheet.go:30", after := #[{ on := 4, ground := Ground.data }, { on := 2, ground := Ground.guard }], guard := some (2, true) }) (v := ?_) rfl (by kernel_rfl) (by kernel_rfl) (by kernel_rfl) (fun _ _ _ h => h) (Or.inl ⟨by rfl, ?_⟩) hHeld ?_
          rotate_left 1
          · intro W hSw
            (try dsimp only at hSw)
            go_simp
            try with_reducible rfl
          try simp only [Act.put, List.setIfInBounds_toArray, List.set_cons_zero, List.set_cons_succ]
          refine wpAnyH_ready (rs := [6]) (by kernel_rfl) (by simp) ?_
          refine AllReadyH.cons (o := { dst := some 25, op := Op.load 143 (Operand.tmp 24), type := 143, pos := "sheet.go:30", after := #[{ on := 5, ground := Ground.data }, { on := 2, ground := Ground.guard }], guard := some (2, true) }) rfl (fun K7 hK7 => ?_) ?_
          · go_simp
            refine hK7.out _ _ (trivial) (fun hHeld => ?_)
            clear hK7 K7
            try simp only [Act.put, List.setIfInBounds_toArray, List.set_cons_zero, List.set_cons_succ]
            refine wpAnyH_ready (rs := [8]) (by kernel_rfl) (by simp) ?_
            refine AllReadyH.cons (o := { dst := some 27, op := Op.call { callee := Callee.value (Operand.tmp 25), args := #[Operand.tmp 26], argTypes := #[87] }, type := 4, pos := "sheet.go:30", after := #[{ on := 6, ground := Ground.data }, { on := 7, ground := Ground.data }, { on := 2, ground := Ground.chain }, { on := 2, ground := Ground.guard }], guard := some (2, true) }) rfl (fun K7 hK7 => ?_) ?_
            · go_simp
              refine (HBo.out _ HB5.out).mono ?_
              rintro e w6 ⟨rfl, hg, hb⟩
              have HG6 := Lib.hid hg
              have HB6 := Lib.hid ((Far.of HB5.out HBB.out).trans hb)
              clear hg hb
              try dsimp only
              refine hK7.out _ _ (trivial) (fun hHeld => ?_)
              clear hK7 K7
              try simp only [Act.put, List.setIfInBounds_toArray, List.set_cons_zero, List.set_cons_succ]
              refine wpAnyH_take (i := 9) (oi := { dst := some 28, op := Op.pick (Operand.tmp 21) (Operand.tmp 27) (Operand.const (Value.bool false)), type := 4, pos := "sheet.go:30", after := #[{ on := 2, ground := Ground.data }, { on := 8, ground := Ground.data }], guard := none }) (v := ?_) rfl (by kernel_rfl) (by kernel_rfl) (by kernel_rfl) (fun _ _ _ h => h) (Or.inl ⟨by rfl, ?_⟩) hHeld ?_
              rotate_left 1
              · intro W hSw
                (try dsimp only at hSw)
                go_simp
                try with_reducible rfl
              try simp only [Act.put, List.setIfInBounds_toArray, List.set_cons_zero, List.set_cons_succ]
              refine wpAnyH_take (i := 10) (oi := { dst := some 4, op := Op.assign (Operand.tmp 28), type := 4, pos := "sheet.go:30", after := #[{ on := 9, ground := Ground.data }, { on := 8, ground := Ground.chain }, { on := 0, ground := Ground.phase }, { on := 1, ground := Ground.phase }, { on := 2, ground := Ground.phase }, { on := 3, ground := Ground.phase }, { on := 4, ground := Ground.phase }, { on := 5, ground := Ground.phase }, { on := 6, ground := Ground.phase }, { on := 7, ground := Ground.phase }, { on := 8, ground := Ground.phase }, { on := 9, ground := Ground.phase }], guard := none }) (v := ?_) rfl (by kernel_rfl) (by kernel_rfl) (by kernel_rfl) (fun _ _ _ h => h) (Or.inl ⟨by rfl, ?_⟩) hHeld ?_
              rotate_left 1
              · intro W hSw
                (try dsimp only at hSw)
                go_simp
                try with_reducible rfl
              try simp only [Act.put, List.setIfInBounds_toArray, List.set_cons_zero, List.set_cons_succ]
              refine wpAnyH_done (by kernel_rfl) ?_ _
              go_wp2
              go_ret
              exact ⟨rfl, HG6.out, HB6.out⟩
            exact AllReadyH.nil
          exact AllReadyH.nil
        exact AllReadyH.nil
      exact AllReadyH.nil
    exact AllReadyH.nil
  exact AllReadyH.nil

set_option maxHeartbeats 16000000 in
set_option maxRecDepth 100000 in
theorem change3_any (c : IncV) (hk : c.kind = 3) (i : Nat) (hc : c.osd = i) (hok : okInc c = true) (B : Nat → Prop) (S g cap : Nat) (m : MapV) (w : World) (h : SheetG w B S g cap m) (hB : In B w) :
    Calls Try.prog 109 #[.pointer (some ⟨S, 0, none⟩), c.val] w (StO B S g cap (setO weighO c.num i m) w) := by
  have HIn := Lib.hid (fun u => Inc_any c u)
  rw [hok] at HIn
  have HBo := Lib.hid (fun u (hu : Below w.heap.size w u) => weigh_any c i hc B S g cap m u (h.keep hu) (hB.mono hu.size))
  obtain ⟨k, o, cl, n, a, b, p, d⟩ := c
  simp only at hc hk
  subst hc hk
  unfold IncV.val at HIn HBo ⊢
  simp only at HIn HBo ⊢
  have hb := below_new w (.cells #[.int .i64 3, .int .i64 i, .int .i64 cl, .int .i64 n, .int .i64 a, .int .i64 b, .int .i64 p, .int .i64 d] 87)
  have hx := ibx_new w ⟨3, i, cl, n, ⟨a, b, p, d⟩⟩
  have hmf : ∀ (fn : Fn) (first cap : Array Value) (w : World), (Instr.makeFunc fn first cap).run Try.prog w = .ok (.func fn first cap) w := fun _ _ _ _ => rfl
  have mixed : Try.prog.follows .mixedOrders = true := by kernel_rfl
  generalize setO weighO n i m = R at HBo ⊢
  have HB := Lib.hid hb; have HX := Lib.hid hx; have HBB := Lib.hid hB
  clear hok h hB hb hx
  go_enter Try.func109, Try.ntmps109
  have HT := Lib.hid (deed_there (w.alloc (.cells #[.int .i64 3, .int .i64 i, .int .i64 cl, .int .i64 n, .int .i64 a, .int .i64 b, .int .i64 p, .int .i64 d] 87)))
  have HDs := Lib.hid (deed_set (w.alloc (.cells #[.int .i64 3, .int .i64 i, .int .i64 cl, .int .i64 n, .int .i64 a, .int .i64 b, .int .i64 p, .int .i64 d] 87)) S)
  have HBd := Lib.hid (deed_below (w.alloc (.cells #[.int .i64 3, .int .i64 i, .int .i64 cl, .int .i64 n, .int .i64 a, .int .i64 b, .int .i64 p, .int .i64 d] 87)) S)
  rw [World.size_alloc] at HT HDs HBd
  go_upto_region 2 with (refine wpList_store_mid rfl 186 _ _ rfl (w.heap.size + 1) 0 (deedA S) rfl rfl HT.out sizeDeed (deed_one S) ?_)
  have HX2 := Lib.hid (HX.out.keep (by rw [World.size_alloc]; exact HBd.out))
  have HB2 := Lib.hid (HB.out.trans (HBd.out.mono (by omega)))
  generalize World.setCells _ (w.heap.size + 1) 0 (deedA S).toList = W at HDs HX2 HB2 ⊢
  have HXd := Lib.hid (HX2.out.keep (below_drew (Below.refl _ _)))
  have HDd := Lib.hid (HDs.out.keep (below_drew (Below.refl _ _)))
  have HBw := Lib.hid (below_drew HB2.out)
  obtain ⟨c0, c1, c2, c3, c4, c5, c6, c7⟩ := HXd.out.cells
  simp only at c0 c1 c2 c3 c4 c5 c6 c7
  clear HT HBd HX HB HX2 HB2 HDs
  refine wp_region_held_drew (S := fun _ => True) (by kernel_rfl) (trivial) (fun hHeld => ?_)
  refine wpAnyH_ready (rs := [0]) (by kernel_rfl) (by simp) ?_
  refine AllReadyH.cons (o := { dst := some 19, op := Op.load 87 (Operand.tmp 3), type := 87, pos := "sheet.go:30", after := #[], guard := none }) rfl (fun K7 hK7 => ?_) ?_
  · go_simp
    refine hK7.out _ _ (trivial) (fun hHeld => ?_)
    clear hK7 K7
    try simp only [Act.put, List.setIfInBounds_toArray, List.set_cons_zero, List.set_cons_succ]
    refine wpAnyH_ready (rs := [1]) (by kernel_rfl) (by simp) ?_
    refine AllReadyH.cons (o := { dst := some 20, op := Op.call { callee := Callee.value (Operand.func 133), args := #[Operand.tmp 19], argTypes := #[87] }, type := 4, pos := "sheet.go:30", after := #[{ on := 0, ground := Ground.data }], guard := none }) rfl (fun K7 hK7 => ?_) ?_
    · go_simp
      refine (HIn.out _).mono ?_
      rintro e w5 ⟨rfl, hb⟩
      have HB5 := Lib.hid (HBw.out.trans (hb.mono HBw.out.size))
      have HX5 := Lib.hid (HXd.out.keep hb)
      have HD5 := Lib.hid (HDd.out.keep hb)
      clear hb c0 c1 c2 c3 c4 c5 c6 c7
      obtain ⟨c0, c1, c2, c3, c4, c5, c6, c7⟩ := HX5.out.cells
      simp only at c0 c1 c2 c3 c4 c5 c6 c7
      have d0 := HD5.out.at3
      try dsimp only
      refine hK7.out _ _ (trivial) (fun hHeld => ?_)
      clear hK7 K7
      try simp only [Act.put, List.setIfInBounds_toArray, List.set_cons_zero, List.set_cons_succ]
      refine wpAnyH_take (i := 2) (oi := { dst := some 21, op := Op.move (Operand.tmp 20), type := 4, pos := "sheet.go:30", after := #[{ on := 1, ground := Ground.data }, { on := 1, ground := Ground.chain }], guard := none }) (v := ?_) rfl (by kernel_rfl) (by kernel_rfl) (by kernel_rfl) (fun _ _ _ h => h) (Or.inl ⟨by rfl, ?_⟩) hHeld ?_
      rotate_left 1
      · intro W hSw
        (try dsimp only at hSw)
        go_simp
        try with_reducible rfl
      try simp only [Act.put, List.setIfInBounds_toArray, List.set_cons_zero, List.set_cons_succ]
      refine wpAnyH_take (i := 3) (oi := { dst := some 22, op := Op.fieldAddr 87 (Operand.tmp 3) 0, type := 0, pos := "sheet.go:30", after := #[{ on := 2, ground := Ground.guard }], guard := some (2, true) }) (v := ?_) rfl (by kernel_rfl) (by kernel_rfl) (by kernel_rfl) (fun _ _ _ h => h) (Or.inl ⟨by rfl, ?_⟩) hHeld ?_
      rotate_left 1
      · intro W hSw
        (try dsimp only at hSw)
        go_simp
        try with_reducible rfl
      try simp only [Act.put, List.setIfInBounds_toArray, List.set_cons_zero, List.set_cons_succ]
      refine wpAnyH_ready (rs := [4, 7]) (by kernel_rfl) (by simp) ?_
      refine AllReadyH.cons (o := { dst := some 23, op := Op.load 3 (Operand.tmp 22), type := 3, pos := "sheet.go:30", after := #[{ on := 3, ground := Ground.data }, { on := 2, ground := Ground.guard }], guard := some (2, true) }) rfl (fun K7 hK7 => ?_) ?_
      · go_simp
        refine hK7.out _ _ (trivial) (fun hHeld => ?_)
        clear hK7 K7
        try simp only [Act.put, List.setIfInBounds_toArray, List.set_cons_zero, List.set_cons_succ]
        refine wpAnyH_take (i := 5) (oi := { dst := some 24, op := Op.indexAddr 186 (Operand.tmp 5) (Operand.tmp 23), type := 0, pos := "sheet.go:30", after := #[{ on := 4, ground := Ground.data }, { on := 2, ground := Ground.guard }], guard := some (2, true) }) (v := ?_) rfl (by kernel_rfl) (by kernel_rfl) (by kernel_rfl) (fun _ _ _ h => h) (Or.inl ⟨by rfl, ?_⟩) hHeld ?_
        rotate_left 1
        · intro W hSw
          (try dsimp only at hSw)
          go_simp
          try with_reducible rfl
        try simp only [Act.put, List.setIfInBounds_toArray, List.set_cons_zero, List.set_cons_succ]
        refine wpAnyH_ready (rs := [6, 7]) (by kernel_rfl) (by simp) ?_
        refine AllReadyH.cons (o := { dst := some 25, op := Op.load 143 (Operand.tmp 24), type := 143, pos := "sheet.go:30", after := #[{ on := 5, ground := Ground.data }, { on := 2, ground := Ground.guard }], guard := some (2, true) }) rfl (fun K7 hK7 => ?_) ?_
        · go_simp
          refine hK7.out _ _ (trivial) (fun hHeld => ?_)
          clear hK7 K7
          try simp only [Act.put, List.setIfInBounds_toArray, List.set_cons_zero, List.set_cons_succ]
          refine wpAnyH_ready (rs := [7]) (by kernel_rfl) (by simp) ?_
          refine AllReadyH.cons (o := { dst := some 26, op := Op.load 87 (Operand.tmp 3), type := 87, pos := "sheet.go:30", after := #[{ on := 2, ground := Ground.guard }], guard := some (2, true) }) rfl (fun K7 hK7 => ?_) ?_
          · go_simp
            refine hK7.out _ _ (trivial) (fun hHeld => ?_)
            clear hK7 K7
            try simp only [Act.put, List.setIfInBounds_toArray, List.set_cons_zero, List.set_cons_succ]
            refine wpAnyH_ready (rs := [8]) (by kernel_rfl) (by simp) ?_
            refine AllReadyH.cons (o := { dst := some 27, op := Op.call { callee := Callee.value (Operand.tmp 25), args := #[Operand.tmp 26], argTypes := #[87] }, type := 4, pos := "sheet.go:30", after := #[{ on := 6, ground := Ground.data }, { on := 7, ground := Ground.data }, { on := 2, ground := Ground.chain }, { on := 2, ground := Ground.guard }], guard := some (2, true) }) rfl (fun K7 hK7 => ?_) ?_
            · go_simp
              refine (HBo.out _ HB5.out).mono ?_
              rintro e w6 ⟨rfl, hg, hb⟩
              have HG6 := Lib.hid hg
              have HB6 := Lib.hid ((Far.of HB5.out HBB.out).trans hb)
              clear hg hb
              try dsimp only
              refine hK7.out _ _ (trivial) (fun hHeld => ?_)
              clear hK7 K7
              try simp only [Act.put, List.setIfInBounds_toArray, List.set_cons_zero, List.set_cons_succ]
              refine wpAnyH_take (i := 9) (oi := { dst := some 28, op := Op.pick (Operand.tmp 21) (Operand.tmp 27) (Operand.const (Value.bool false)), type := 4, pos := "sheet.go:30", after := #[{ on := 2, ground := Ground.data }, { on := 8, ground := Ground.data }], guard := none }) (v := ?_) rfl (by kernel_rfl) (by kernel_rfl) (by kernel_rfl) (fun _ _ _ h => h) (Or.inl ⟨by rfl, ?_⟩) hHeld ?_
              rotate_left 1
              · intro W hSw
                (try dsimp only at hSw)
                go_simp
                try with_reducible rfl
              try simp only [Act.put, List.setIfInBounds_toArray, List.set_cons_zero, List.set_cons_succ]
              refine wpAnyH_take (i := 10) (oi := { dst := some 4, op := Op.assign (Operand.tmp 28), type := 4, pos := "sheet.go:30", after := #[{ on := 9, ground := Ground.data }, { on := 8, ground := Ground.chain }, { on := 0, ground := Ground.phase }, { on := 1, ground := Ground.phase }, { on := 2, ground := Ground.phase }, { on := 3, ground := Ground.phase }, { on := 4, ground := Ground.phase }, { on := 5, ground := Ground.phase }, { on := 6, ground := Ground.phase }, { on := 7, ground := Ground.phase }, { on := 8, ground := Ground.phase }, { on := 9, ground := Ground.phase }], guard := none }) (v := ?_) rfl (by kernel_rfl) (by kernel_rfl) (by kernel_rfl) (fun _ _ _ h => h) (Or.inl ⟨by rfl, ?_⟩) hHeld ?_
              rotate_left 1
              · intro W hSw
                (try dsimp only at hSw)
                go_simp
                try with_reducible rfl
              try simp only [Act.put, List.setIfInBounds_toArray, List.set_cons_zero, List.set_cons_succ]
              refine wpAnyH_done (by kernel_rfl) ?_ _
              go_wp2
              go_ret
              exact ⟨rfl, HG6.out, HB6.out⟩
            exact AllReadyH.nil
          exact AllReadyH.nil
        refine AllReadyH.cons (o := { dst := some 26, op := Op.load 87 (Operand.tmp 3), type := 87, pos := "sheet.go:30", after := #[{ on := 2, ground := Ground.guard }], guard := some (2, true) }) rfl (fun K7 hK7 => ?_) ?_
        · go_simp
          refine hK7.out _ _ (trivial) (fun hHeld => ?_)
          clear hK7 K7
          try simp only [Act.put, List.setIfInBounds_toArray, List.set_cons_zero, List.set_cons_succ]
          refine wpAnyH_ready (rs := [6]) (by kernel_rfl) (by simp) ?_
          refine AllReadyH.cons (o := { dst := some 25, op := Op.load 143 (Operand.tmp 24), type := 143, pos := "sheet.go:30", after := #[{ on := 5, ground := Ground.data }, { on := 2, ground := Ground.guard }], guard := some (2, true) }) rfl (fun K7 hK7 => ?_) ?_
          · go_simp
            refine hK7.out _ _ (trivial) (fun hHeld => ?_)
            clear hK7 K7
            try simp only [Act.put, List.setIfInBounds_toArray, List.set_cons_zero, List.set_cons_succ]
            refine wpAnyH_ready (rs := [8]) (by kernel_rfl) (by simp) ?_
            refine AllReadyH.cons (o := { dst := some 27, op := Op.call { callee := Callee.value (Operand.tmp 25), args := #[Operand.tmp 26], argTypes := #[87] }, type := 4, pos := "sheet.go:30", after := #[{ on := 6, ground := Ground.data }, { on := 7, ground := Ground.data }, { on := 2, ground := Ground.chain }, { on := 2, ground := Ground.guard }], guard := some (2, true) }) rfl (fun K7 hK7 => ?_) ?_
            · go_simp
              refine (HBo.out _ HB5.out).mono ?_
              rintro e w6 ⟨rfl, hg, hb⟩
              have HG6 := Lib.hid hg
              have HB6 := Lib.hid ((Far.of HB5.out HBB.out).trans hb)
              clear hg hb
              try dsimp only
              refine hK7.out _ _ (trivial) (fun hHeld => ?_)
              clear hK7 K7
              try simp only [Act.put, List.setIfInBounds_toArray, List.set_cons_zero, List.set_cons_succ]
              refine wpAnyH_take (i := 9) (oi := { dst := some 28, op := Op.pick (Operand.tmp 21) (Operand.tmp 27) (Operand.const (Value.bool false)), type := 4, pos := "sheet.go:30", after := #[{ on := 2, ground := Ground.data }, { on := 8, ground := Ground.data }], guard := none }) (v := ?_) rfl (by kernel_rfl) (by kernel_rfl) (by kernel_rfl) (fun _ _ _ h => h) (Or.inl ⟨by rfl, ?_⟩) hHeld ?_
              rotate_left 1
              · intro W hSw
                (try dsimp only at hSw)
                go_simp
                try with_reducible rfl
              try simp only [Act.put, List.setIfInBounds_toArray, List.set_cons_zero, List.set_cons_succ]
              refine wpAnyH_take (i := 10) (oi := { dst := some 4, op := Op.assign (Operand.tmp 28), type := 4, pos := "sheet.go:30", after := #[{ on := 9, ground := Ground.data }, { on := 8, ground := Ground.chain }, { on := 0, ground := Ground.phase }, { on := 1, ground := Ground.phase }, { on := 2, ground := Ground.phase }, { on := 3, ground := Ground.phase }, { on := 4, ground := Ground.phase }, { on := 5, ground := Ground.phase }, { on := 6, ground := Ground.phase }, { on := 7, ground := Ground.phase }, { on := 8, ground := Ground.phase }, { on := 9, ground := Ground.phase }], guard := none }) (v := ?_) rfl (by kernel_rfl) (by kernel_rfl) (by kernel_rfl) (fun _ _ _ h => h) (Or.inl ⟨by rfl, ?_⟩) hHeld ?_
              rotate_left 1
              · intro W hSw
                (try dsimp only at hSw)
                go_simp
                try with_reducible rfl
              try simp only [Act.put, List.setIfInBounds_toArray, List.set_cons_zero, List.set_cons_succ]
              refine wpAnyH_done (by kernel_rfl) ?_ _
              go_wp2
              go_ret
              exact ⟨rfl, HG6.out, HB6.out⟩
            exact AllReadyH.nil
          exact AllReadyH.nil
        exact AllReadyH.nil
      refine AllReadyH.cons (o := { dst := some 26, op := Op.load 87 (Operand.tmp 3), type := 87, pos := "sheet.go:30", after := #[{ on := 2, ground := Ground.guard }], guard := some (2, true) }) rfl (fun K7 hK7 => ?_) ?_
      · go_simp
        refine hK7.out _ _ (trivial) (fun hHeld => ?_)
        clear hK7 K7
        try simp only [Act.put, List.setIfInBounds_toArray, List.set_cons_zero, List.set_cons_succ]
        refine wpAnyH_ready (rs := [4]) (by kernel_rfl) (by simp) ?_
        refine AllReadyH.cons (o := { dst := some 23, op := Op.load 3 (Operand.tmp 22), type := 3, pos := "sheet.go:30", after := #[{ on := 3, ground := Ground.data }, { on := 2, ground := Ground.guard }], guard := some (2, true) }) rfl (fun K7 hK7 => ?_) ?_
        · go_simp
          refine hK7.out _ _ (trivial) (fun hHeld => ?_)
          clear hK7 K7
          try simp only [Act.put, List.setIfInBounds_toArray, List.set_cons_zero, List.set_cons_succ]
          refine wpAnyH_take (i := 5) (oi := { dst := some 24, op := Op.indexAddr 186 (Operand.tmp 5) (Operand.tmp 23), type := 0, pos := "sheet.go:30", after := #[{ on := 4, ground := Ground.data }, { on := 2, ground := Ground.guard }], guard := some (2, true) }) (v := ?_) rfl (by kernel_rfl) (by kernel_rfl) (by kernel_rfl) (fun _ _ _ h => h) (Or.inl ⟨by rfl, ?_⟩) hHeld ?_
          rotate_left 1
          · intro W hSw
            (try dsimp only at hSw)
            go_simp
            try with_reducible rfl
          try simp only [Act.put, List.setIfInBounds_toArray, List.set_cons_zero, List.set_cons_succ]
          refine wpAnyH_ready (rs := [6]) (by kernel_rfl) (by simp) ?_
          refine AllReadyH.cons (o := { dst := some 25, op := Op.load 143 (Operand.tmp 24), type := 143, pos := "sheet.go:30", after := #[{ on := 5, ground := Ground.data }, { on := 2, ground := Ground.guard }], guard := some (2, true) }) rfl (fun K7 hK7 => ?_) ?_
          · go_simp
            refine hK7.out _ _ (trivial) (fun hHeld => ?_)
            clear hK7 K7
            try simp only [Act.put, List.setIfInBounds_toArray, List.set_cons_zero, List.set_cons_succ]
            refine wpAnyH_ready (rs := [8]) (by kernel_rfl) (by simp) ?_
            refine AllReadyH.cons (o := { dst := some 27, op := Op.call { callee := Callee.value (Operand.tmp 25), args := #[Operand.tmp 26], argTypes := #[87] }, type := 4, pos := "sheet.go:30", after := #[{ on := 6, ground := Ground.data }, { on := 7, ground := Ground.data }, { on := 2, ground := Ground.chain }, { on := 2, ground := Ground.guard }], guard := some (2, true) }) rfl (fun K7 hK7 => ?_) ?_
            · go_simp
              refine (HBo.out _ HB5.out).mono ?_
              rintro e w6 ⟨rfl, hg, hb⟩
              have HG6 := Lib.hid hg
              have HB6 := Lib.hid ((Far.of HB5.out HBB.out).trans hb)
              clear hg hb
              try dsimp only
              refine hK7.out _ _ (trivial) (fun hHeld => ?_)
              clear hK7 K7
              try simp only [Act.put, List.setIfInBounds_toArray, List.set_cons_zero, List.set_cons_succ]
              refine wpAnyH_take (i := 9) (oi := { dst := some 28, op := Op.pick (Operand.tmp 21) (Operand.tmp 27) (Operand.const (Value.bool false)), type := 4, pos := "sheet.go:30", after := #[{ on := 2, ground := Ground.data }, { on := 8, ground := Ground.data }], guard := none }) (v := ?_) rfl (by kernel_rfl) (by kernel_rfl) (by kernel_rfl) (fun _ _ _ h => h) (Or.inl ⟨by rfl, ?_⟩) hHeld ?_
              rotate_left 1
              · intro W hSw
                (try dsimp only at hSw)
                go_simp
                try with_reducible rfl
              try simp only [Act.put, List.setIfInBounds_toArray, List.set_cons_zero, List.set_cons_succ]
              refine wpAnyH_take (i := 10) (oi := { dst := some 4, op := Op.assign (Operand.tmp 28), type := 4, pos := "sheet.go:30", after := #[{ on := 9, ground := Ground.data }, { on := 8, ground := Ground.chain }, { on := 0, ground := Ground.phase }, { on := 1, ground := Ground.phase }, { on := 2, ground := Ground.phase }, { on := 3, ground := Ground.phase }, { on := 4, ground := Ground.phase }, { on := 5, ground := Ground.phase }, { on := 6, ground := Ground.phase }, { on := 7, ground := Ground.phase }, { on := 8, ground := Ground.phase }, { on := 9, ground := Ground.phase }], guard := none }) (v := ?_) rfl (by kernel_rfl) (by kernel_rfl) (by kernel_rfl) (fun _ _ _ h => h) (Or.inl ⟨by rfl, ?_⟩) hHeld ?_
              rotate_left 1
              · intro W hSw
                (try dsimp only at hSw)
                go_simp
                try with_reducible rfl
              try simp only [Act.put, List.setIfInBounds_toArray, List.set_cons_zero, List.set_cons_succ]
              refine wpAnyH_done (by kernel_rfl) ?_ _
              go_wp2
              go_ret
              exact ⟨rfl, HG6.out, HB6.out⟩
            exact AllReadyH.nil
          exact AllReadyH.nil
        exact AllReadyH.nil
      exact AllReadyH.nil
    exact AllReadyH.nil
  exact AllReadyH.nil

set_option maxHeartbeats 16000000 in
set_option maxRecDepth 100000 in
theorem change4_any (c : IncV) (hk : c.kind = 4) (i : Nat) (hc : c.osd = i) (hok : okInc c = true) (B : Nat → Prop) (S g cap : Nat) (m : MapV) (w : World) (h : SheetG w B S g cap m) (hB : In B w) :
    Calls Try.prog 109 #[.pointer (some ⟨S, 0, none⟩), c.val] w (StO B S g cap (setO thruO c.num i m) w) := by
  have HIn := Lib.hid (fun u => Inc_any c u)
  rw [hok] at HIn
  have HBo := Lib.hid (fun u (hu : Below w.heap.size w u) => thru_any c i hc B S g cap m u (h.keep hu) (hB.mono hu.size))
  obtain ⟨k, o, cl, n, a, b, p, d⟩ := c
  simp only at hc hk
  subst hc hk
  unfold IncV.val at HIn HBo ⊢
  simp only at HIn HBo ⊢
  have hb := below_new w (.cells #[.int .i64 4, .int .i64 i, .int .i64 cl, .int .i64 n, .int .i64 a, .int .i64 b, .int .i64 p, .int .i64 d] 87)
  have hx := ibx_new w ⟨4, i, cl, n, ⟨a, b, p, d⟩⟩
  have hmf : ∀ (fn : Fn) (first cap : Array Value) (w : World), (Instr.makeFunc fn first cap).run Try.prog w = .ok (.func fn first cap) w := fun _ _ _ _ => rfl
  have mixed : Try.prog.follows .mixedOrders = true := by kernel_rfl
  generalize setO thruO n i m = R at HBo ⊢
  have HB := Lib.hid hb; have HX := Lib.hid hx; have HBB := Lib.hid hB
  clear hok h hB hb hx
  go_enter Try.func109, Try.ntmps109
  have HT := Lib.hid (deed_there (w.alloc (.cells #[.int .i64 4, .int .i64 i, .int .i64 cl, .int .i64 n, .int .i64 a, .int .i64 b, .int .i64 p, .int .i64 d] 87)))
  have HDs := Lib.hid (deed_set (w.alloc (.cells #[.int .i64 4, .int .i64 i, .int .i64 cl, .int .i64 n, .int .i64 a, .int .i64 b, .int .i64 p, .int .i64 d] 87)) S)
  have HBd := Lib.hid (deed_below (w.alloc (.cells #[.int .i64 4, .int .i64 i, .int .i64 cl, .int .i64 n, .int .i64 a, .int .i64 b, .int .i64 p, .int .i64 d] 87)) S)
  rw [World.size_alloc] at HT HDs HBd
  go_upto_region 2 with (refine wpList_store_mid rfl 186 _ _ rfl (w.heap.size + 1) 0 (deedA S) rfl rfl HT.out sizeDeed (deed_one S) ?_)
  have HX2 := Lib.hid (HX.out.keep (by rw [World.size_alloc]; exact HBd.out))
  have HB2 := Lib.hid (HB.out.trans (HBd.out.mono (by omega)))
  generalize World.setCells _ (w.heap.size + 1) 0 (deedA S).toList = W at HDs HX2 HB2 ⊢
  have HXd := Lib.hid (HX2.out.keep (below_drew (Below.refl _ _)))
  have HDd := Lib.hid (HDs.out.keep (below_drew (Below.refl _ _)))
  have HBw := Lib.hid (below_drew HB2.out)
  obtain ⟨c0, c1, c2, c3, c4, c5, c6, c7⟩ := HXd.out.cells
  simp only at c0 c1 c2 c3 c4 c5 c6 c7
  clear HT HBd HX HB HX2 HB2 HDs
  refine wp_region_held_drew (S := fun _ => True) (by kernel_rfl) (trivial) (fun hHeld => ?_)
  refine wpAnyH_ready (rs := [0]) (by kernel_rfl) (by simp) ?_
  refine AllReadyH.cons (o := { dst := some 19, op := Op.load 87 (Operand.tmp 3), type := 87, pos := "sheet.go:30", after := #[], guard := none }) rfl (fun K7 hK7 => ?_) ?_
  · go_simp
    refine hK7.out _ _ (trivial) (fun hHeld => ?_)
    clear hK7 K7
    try simp only [Act.put, List.setIfInBounds_toArray, List.set_cons_zero, List.set_cons_succ]
    refine wpAnyH_ready (rs := [1]) (by kernel_rfl) (by simp) ?_
    refine AllReadyH.cons (o := { dst := some 20, op := Op.call { callee := Callee.value (Operand.func 133), args := #[Operand.tmp 19], argTypes := #[87] }, type := 4, pos := "sheet.go:30", after := #[{ on := 0, ground := Ground.data }], guard := none }) rfl (fun K7 hK7 => ?_) ?_
    · go_simp
      refine (HIn.out _).mono ?_
      rintro e w5 ⟨rfl, hb⟩
      have HB5 := Lib.hid (HBw.out.trans (hb.mono HBw.out.size))
      have HX5 := Lib.hid (HXd.out.keep hb)
      have HD5 := Lib.hid (HDd.out.keep hb)
      clear hb c0 c1 c2 c3 c4 c5 c6 c7
      obtain ⟨c0, c1, c2, c3, c4, c5, c6, c7⟩ := HX5.out.cells
      simp only at c0 c1 c2 c3 c4 c5 c6 c7
      have d0 := HD5.out.at4
      try dsimp only
      refine hK7.out _ _ (trivial) (fun hHeld => ?_)
      clear hK7 K7
      try simp only [Act.put, List.setIfInBounds_toArray, List.set_cons_zero, List.set_cons_succ]
      refine wpAnyH_take (i := 2) (oi := { dst := some 21, op := Op.move (Operand.tmp 20), type := 4, pos := "sheet.go:30", after := #[{ on := 1, ground := Ground.data }, { on := 1, ground := Ground.chain }], guard := none }) (v := ?_) rfl (by kernel_rfl) (by kernel_rfl) (by kernel_rfl) (fun _ _ _ h => h) (Or.inl ⟨by rfl, ?_⟩) hHeld ?_
      rotate_left 1
      · intro W hSw
        (try dsimp only at hSw)
        go_simp
        try with_reducible rfl
      try simp only [Act.put, List.setIfInBounds_toArray, List.set_cons_zero, List.set_cons_succ]
      refine wpAnyH_take (i := 3) (oi := { dst := some 22, op := Op.fieldAddr 87 (Operand.tmp 3) 0, type := 0, pos := "sheet.go:30", after := #[{ on := 2, ground := Ground.guard }], guard := some (2, true) }) (v := ?_) rfl (by kernel_rfl) (by kernel_rfl) (by kernel_rfl) (fun _ _ _ h => h) (Or.inl ⟨by rfl, ?_⟩) hHeld ?_
      rotate_left 1
      · intro W hSw
        (try dsimp only at hSw)
        go_simp
        try with_reducible rfl
      try simp only [Act.put, List.setIfInBounds_toArray, List.set_cons_zero, List.set_cons_succ]
      refine wpAnyH_ready (rs := [4, 7]) (by kernel_rfl) (by simp) ?_
      refine AllReadyH.cons (o := { dst := some 23, op := Op.load 3 (Operand.tmp 22), type := 3, pos := "sheet.go:30", after := #[{ on := 3, ground := Ground.data }, { on := 2, ground := Ground.guard }], guard := some (2, true) }) rfl (fun K7 hK7 => ?_) ?_
      · go_simp
        refine hK7.out _ _ (trivial) (fun hHeld => ?_)
        clear hK7 K7
        try simp only [Act.put, List.setIfInBounds_toArray, List.set_cons_zero, List.set_cons_succ]
        refine wpAnyH_take (i := 5) (oi := { dst := some 24, op := Op.indexAddr 186 (Operand.tmp 5) (Operand.tmp 23), type := 0, pos := "sheet.go:30", after := #[{ on := 4, ground := Ground.data }, { on := 2, ground := Ground.guard }], guard := some (2, true) }) (v := ?_) rfl (by kernel_rfl) (by kernel_rfl) (by kernel_rfl) (fun _ _ _ h => h) (Or.inl ⟨by rfl, ?_⟩) hHeld ?_
        rotate_left 1
        · intro W hSw
          (try dsimp only at hSw)
          go_simp
          try with_reducible rfl
        try simp only [Act.put, List.setIfInBounds_toArray, List.set_cons_zero, List.set_cons_succ]
        refine wpAnyH_ready (rs := [6, 7]) (by kernel_rfl) (by simp) ?_
        refine AllReadyH.cons (o := { dst := some 25, op := Op.load 143 (Operand.tmp 24), type := 143, pos := "sheet.go:30", after := #[{ on := 5, ground := Ground.data }, { on := 2, ground := Ground.guard }], guard := some (2, true) }) rfl (fun K7 hK7 => ?_) ?_
        · go_simp
          refine hK7.out _ _ (trivial) (fun hHeld => ?_)
          clear hK7 K7
          try simp only [Act.put, List.setIfInBounds_toArray, List.set_cons_zero, List.set_cons_succ]
          refine wpAnyH_ready (rs := [7]) (by kernel_rfl) (by simp) ?_
          refine AllReadyH.cons (o := { dst := some 26, op := Op.load 87 (Operand.tmp 3), type := 87, pos := "sheet.go:30", after := #[{ on := 2, ground := Ground.guard }], guard := some (2, true) }) rfl (fun K7 hK7 => ?_) ?_
          · go_simp
            refine hK7.out _ _ (trivial) (fun hHeld => ?_)
            clear hK7 K7
            try simp only [Act.put, List.setIfInBounds_toArray, List.set_cons_zero, List.set_cons_succ]
            refine wpAnyH_ready (rs := [8]) (by kernel_rfl) (by simp) ?_
            refine AllReadyH.cons (o := { dst := some 27, op := Op.call { callee := Callee.value (Operand.tmp 25), args := #[Operand.tmp 26], argTypes := #[87] }, type := 4, pos := "sheet.go:30", after := #[{ on := 6, ground := Ground.data }, { on := 7, ground := Ground.data }, { on := 2, ground := Ground.chain }, { on := 2, ground := Ground.guard }], guard := some (2, true) }) rfl (fun K7 hK7 => ?_) ?_
            · go_simp
              refine (HBo.out _ HB5.out).mono ?_
              rintro e w6 ⟨rfl, hg, hb⟩
              have HG6 := Lib.hid hg
              have HB6 := Lib.hid ((Far.of HB5.out HBB.out).trans hb)
              clear hg hb
              try dsimp only
              refine hK7.out _ _ (trivial) (fun hHeld => ?_)
              clear hK7 K7
              try simp only [Act.put, List.setIfInBounds_toArray, List.set_cons_zero, List.set_cons_succ]
              refine wpAnyH_take (i := 9) (oi := { dst := some 28, op := Op.pick (Operand.tmp 21) (Operand.tmp 27) (Operand.const (Value.bool false)), type := 4, pos := "sheet.go:30", after := #[{ on := 2, ground := Ground.data }, { on := 8, ground := Ground.data }], guard := none }) (v := ?_) rfl (by kernel_rfl) (by kernel_rfl) (by kernel_rfl) (fun _ _ _ h => h) (Or.inl ⟨by rfl, ?_⟩) hHeld ?_
              rotate_left 1
              · intro W hSw
                (try dsimp only at hSw)
                go_simp
                try with_reducible rfl
              try simp only [Act.put, List.setIfInBounds_toArray, List.set_cons_zero, List.set_cons_succ]
              refine wpAnyH_take (i := 10) (oi := { dst := some 4, op := Op.assign (Operand.tmp 28), type := 4, pos := "sheet.go:30", after := #[{ on := 9, ground := Ground.data }, { on := 8, ground := Ground.chain }, { on := 0, ground := Ground.phase }, { on := 1, ground := Ground.phase }, { on := 2, ground := Ground.phase }, { on := 3, ground := Ground.phase }, { on := 4, ground := Ground.phase }, { on := 5, ground := Ground.phase }, { on := 6, ground := Ground.phase }, { on := 7, ground := Ground.phase }, { on := 8, ground := Ground.phase }, { on := 9, ground := Ground.phase }], guard := none }) (v := ?_) rfl (by kernel_rfl) (by kernel_rfl) (by kernel_rfl) (fun _ _ _ h => h) (Or.inl ⟨by rfl, ?_⟩) hHeld ?_
              rotate_left 1
              · intro W hSw
                (try dsimp only at hSw)
                go_simp
                try with_reducible rfl
              try simp only [Act.put, List.setIfInBounds_toArray, List.set_cons_zero, List.set_cons_succ]
              refine wpAnyH_done (by kernel_rfl) ?_ _
              go_wp2
              go_ret
              exact ⟨rfl, HG6.out, HB6.out⟩
            exact AllReadyH.nil
          exact AllReadyH.nil
        refine AllReadyH.cons (o := { dst := some 26, op := Op.load 87 (Operand.tmp 3), type := 87, pos := "sheet.go:30", after := #[{ on := 2, ground := Ground.guard }], guard := some (2, true) }) rfl (fun K7 hK7 => ?_) ?_
        · go_simp
          refine hK7.out _ _ (trivial) (fun hHeld => ?_)
          clear hK7 K7
          try simp only [Act.put, List.setIfInBounds_toArray, List.set_cons_zero, List.set_cons_succ]
          refine wpAnyH_ready (rs := [6]) (by kernel_rfl) (by simp) ?_
          refine AllReadyH.cons (o := { dst := some 25, op := Op.load 143 (Operand.tmp 24), type := 143, pos := "sheet.go:30", after := #[{ on := 5, ground := Ground.data }, { on := 2, ground := Ground.guard }], guard := some (2, true) }) rfl (fun K7 hK7 => ?_) ?_
          · go_simp
            refine hK7.out _ _ (trivial) (fun hHeld => ?_)
            clear hK7 K7
            try simp only [Act.put, List.setIfInBounds_toArray, List.set_cons_zero, List.set_cons_succ]
            refine wpAnyH_ready (rs := [8]) (by kernel_rfl) (by simp) ?_
            refine AllReadyH.cons (o := { dst := some 27, op := Op.call { callee := Callee.value (Operand.tmp 25), args := #[Operand.tmp 26], argTypes := #[87] }, type := 4, pos := "sheet.go:30", after := #[{ on := 6, ground := Ground.data }, { on := 7, ground := Ground.data }, { on := 2, ground := Ground.chain }, { on := 2, ground := Ground.guard }], guard := some (2, true) }) rfl (fun K7 hK7 => ?_) ?_
            · go_simp
              refine (HBo.out _ HB5.out).mono ?_
              rintro e w6 ⟨rfl, hg, hb⟩
              have HG6 := Lib.hid hg
              have HB6 := Lib.hid ((Far.of HB5.out HBB.out).trans hb)
              clear hg hb
              try dsimp only
              refine hK7.out _ _ (trivial) (fun hHeld => ?_)
              clear hK7 K7
              try simp only [Act.put, List.setIfInBounds_toArray, List.set_cons_zero, List.set_cons_succ]
              refine wpAnyH_take (i := 9) (oi := { dst := some 28, op := Op.pick (Operand.tmp 21) (Operand.tmp 27) (Operand.const (Value.bool false)), type := 4, pos := "sheet.go:30", after := #[{ on := 2, ground := Ground.data }, { on := 8, ground := Ground.data }], guard := none }) (v := ?_) rfl (by kernel_rfl) (by kernel_rfl) (by kernel_rfl) (fun _ _ _ h => h) (Or.inl ⟨by rfl, ?_⟩) hHeld ?_
              rotate_left 1
              · intro W hSw
                (try dsimp only at hSw)
                go_simp
                try with_reducible rfl
              try simp only [Act.put, List.setIfInBounds_toArray, List.set_cons_zero, List.set_cons_succ]
              refine wpAnyH_take (i := 10) (oi := { dst := some 4, op := Op.assign (Operand.tmp 28), type := 4, pos := "sheet.go:30", after := #[{ on := 9, ground := Ground.data }, { on := 8, ground := Ground.chain }, { on := 0, ground := Ground.phase }, { on := 1, ground := Ground.phase }, { on := 2, ground := Ground.phase }, { on := 3, ground := Ground.phase }, { on := 4, ground := Ground.phase }, { on := 5, ground := Ground.phase }, { on := 6, ground := Ground.phase }, { on := 7, ground := Ground.phase }, { on := 8, ground := Ground.phase }, { on := 9, ground := Ground.phase }], guard := none }) (v := ?_) rfl (by kernel_rfl) (by kernel_rfl) (by kernel_rfl) (fun _ _ _ h => h) (Or.inl ⟨by rfl, ?_⟩) hHeld ?_
              rotate_left 1
              · intro W hSw
                (try dsimp only at hSw)
                go_simp
                try with_reducible rfl
              try simp only [Act.put, List.setIfInBounds_toArray, List.set_cons_zero, List.set_cons_succ]
              refine wpAnyH_done (by kernel_rfl) ?_ _
              go_wp2
              go_ret
              exact ⟨rfl, HG6.out, HB6.out⟩
            exact AllReadyH.nil
          exact AllReadyH.nil
        exact AllReadyH.nil
      refine AllReadyH.cons (o := { dst := some 26, op := Op.load 87 (Operand.tmp 3), type := 87, pos := "sheet.go:30", after := #[{ on := 2, ground := Ground.guard }], guard := some (2, true) }) rfl (fun K7 hK7 => ?_) ?_
      · go_simp
        refine hK7.out _ _ (trivial) (fun hHeld => ?_)
        clear hK7 K7
        try simp only [Act.put, List.setIfInBounds_toArray, List.set_cons_zero, List.set_cons_succ]
        refine wpAnyH_ready (rs := [4]) (by kernel_rfl) (by simp) ?_
        refine AllReadyH.cons (o := { dst := some 23, op := Op.load 3 (Operand.tmp 22), type := 3, pos := "sheet.go:30", after := #[{ on := 3, ground := Ground.data }, { on := 2, ground := Ground.guard }], guard := some (2, true) }) rfl (fun K7 hK7 => ?_) ?_
        · go_simp
          refine hK7.out _ _ (trivial) (fun hHeld => ?_)
          clear hK7 K7
          try simp only [Act.put, List.setIfInBounds_toArray, List.set_cons_zero, List.set_cons_succ]
          refine wpAnyH_take (i := 5) (oi := { dst := some 24, op := Op.indexAddr 186 (Operand.tmp 5) (Operand.tmp 23), type := 0, pos := "sheet.go:30", after := #[{ on := 4, ground := Ground.data }, { on := 2, ground := Ground.guard }], guard := some (2, true) }) (v := ?_) rfl (by kernel_rfl) (by kernel_rfl) (by kernel_rfl) (fun _ _ _ h => h) (Or.inl ⟨by rfl, ?_⟩) hHeld ?_
          rotate_left 1
          · intro W hSw
            (try dsimp only at hSw)
            go_simp
            try with_reducible rfl
          try simp only [Act.put, List.setIfInBounds_toArray, List.set_cons_zero, List.set_cons_succ]
          refine wpAnyH_ready (rs := [6]) (by kernel_rfl) (by simp) ?_
          refine AllReadyH.cons (o := { dst := some 25, op := Op.load 143 (Operand.tmp 24), type := 143, pos := "sheet.go:30", after := #[{ on := 5, ground := Ground.data }, { on := 2, ground := Ground.guard }], guard := some (2, true) }) rfl (fun K7 hK7 => ?_) ?_
          · go_simp
            refine hK7.out _ _ (trivial) (fun hHeld => ?_)
            clear hK7 K7
            try simp only [Act.put, List.setIfInBounds_toArray, List.set_cons_zero, List.set_cons_succ]
            refine wpAnyH_ready (rs := [8]) (by kernel_rfl) (by simp) ?_
            refine AllReadyH.cons (o := { dst := some 27, op := Op.call { callee := Callee.value (Operand.tmp 25), args := #[Operand.tmp 26], argTypes := #[87] }, type := 4, pos := "sheet.go:30", after := #[{ on := 6, ground := Ground.data }, { on := 7, ground := Ground.data }, { on := 2, ground := Ground.chain }, { on := 2, ground := Ground.guard }], guard := some (2, true) }) rfl (fun K7 hK7 => ?_) ?_
            · go_simp
              refine (HBo.out _ HB5.out).mono ?_
              rintro e w6 ⟨rfl, hg, hb⟩
              have HG6 := Lib.hid hg
              have HB6 := Lib.hid ((Far.of HB5.out HBB.out).trans hb)
              clear hg hb
              try dsimp only
              refine hK7.out _ _ (trivial) (fun hHeld => ?_)
              clear hK7 K7
              try simp only [Act.put, List.setIfInBounds_toArray, List.set_cons_zero, List.set_cons_succ]
              refine wpAnyH_take (i := 9) (oi := { dst := some 28, op := Op.pick (Operand.tmp 21) (Operand.tmp 27) (Operand.const (Value.bool false)), type := 4, pos := "sheet.go:30", after := #[{ on := 2, ground := Ground.data }, { on := 8, ground := Ground.data }], guard := none }) (v := ?_) rfl (by kernel_rfl) (by kernel_rfl) (by kernel_rfl) (fun _ _ _ h => h) (Or.inl ⟨by rfl, ?_⟩) hHeld ?_
              rotate_left 1
              · intro W hSw
                (try dsimp only at hSw)
                go_simp
                try with_reducible rfl
              try simp only [Act.put, List.setIfInBounds_toArray, List.set_cons_zero, List.set_cons_succ]
              refine wpAnyH_take (i := 10) (oi := { dst := some 4, op := Op.assign (Operand.tmp 28), type := 4, pos := "sheet.go:30", after := #[{ on := 9, ground := Ground.data }, { on := 8, ground := Ground.chain }, { on := 0, ground := Ground.phase }, { on := 1, ground := Ground.phase }, { on := 2, ground := Ground.phase }, { on := 3, ground := Ground.phase }, { on := 4, ground := Ground.phase }, { on := 5, ground := Ground.phase }, { on := 6, ground := Ground.phase }, { on := 7, ground := Ground.phase }, { on := 8, ground := Ground.phase }, { on := 9, ground := Ground.phase }], guard := none }) (v := ?_) rfl (by kernel_rfl) (by kernel_rfl) (by kernel_rfl) (fun _ _ _ h => h) (Or.inl ⟨by rfl, ?_⟩) hHeld ?_
              rotate_left 1
              · intro W hSw
                (try dsimp only at hSw)
                go_simp
                try with_reducible rfl
              try simp only [Act.put, List.setIfInBounds_toArray, List.set_cons_zero, List.set_cons_succ]
              refine wpAnyH_done (by kernel_rfl) ?_ _
              go_wp2
              go_ret
              exact ⟨rfl, HG6.out, HB6.out⟩
            exact AllReadyH.nil
          exact AllReadyH.nil
        exact AllReadyH.nil
      exact AllReadyH.nil
    exact AllReadyH.nil
  exact AllReadyH.nil
end Go.Proofs.Ytcofmfjhgbihkaa.crush
