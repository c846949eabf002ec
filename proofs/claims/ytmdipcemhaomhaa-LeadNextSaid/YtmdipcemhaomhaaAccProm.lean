/- Promise. -/
import Derived.Test.YtmdipcemhaomhaaRows
import Derived.Test.YtmdipcemhaomhaaAccColl
namespace Go.Proofs.Ytmdipcemhaomhaa.crush
open Go.RowKit
open Go.Proofs.Ytmdipcemhaomhaa.kit Go.Proofs.Ytmdipcemhaomhaa.own Go.Proofs.Ytmdipcemhaomhaa.iter
set_option linter.unusedVariables false
set_option linter.unusedSimpArgs false

/-- An acceptor whose row has room for itself. -/
def Roomy (v : Value) (a : AccV) : Prop := ∃ x c, v = a.agg (.slice x a.com.length c) ∧ a.com.length ≤ c
theorem own_roomy {w : World} {B e : Nat} {s : Value} {a : AccV} (h : Own tx 1 e w B s a.com) : Roomy (a.agg s) a := by
  rcases h.at with ⟨rfl, h0⟩ | ⟨g, cap, rfl, -, ho⟩
  · exact ⟨none, 0, by rw [h0]; rfl, by rw [h0]; simp⟩
  · exact ⟨_, _, rfl, ho.le⟩
theorem own_accR {w : World} {B e : Nat} {s : Value} {a : AccV} (h : Own tx 1 e w B s a.com) : AccR w (a.agg s) a := ⟨s, rfl, h.read tx_len⟩

/-- The box of a promise. -/
def PBox (W : World) (M : Nat) (mon n : Int) (has : Bool) (ar am : Int) (val : ByteArray) : Prop := W.heap[M]? = some (.cells #[.int .i64 mon, .int .i64 n, .bool has, .int .i64 ar, .int .i64 am, .string val] 37 (0, 0))
section
variable {W W' : World} {M : Nat} {mon n : Int} {has : Bool} {ar am : Int} {val : ByteArray}
theorem PBox.lt (h : PBox W M mon n has ar am val) : M < W.heap.size := (Array.getElem?_eq_some_iff.1 h).1
theorem PBox.keep (h : PBox W M mon n has ar am val) (hb : Below W.heap.size W W') : PBox W' M mon n has ar am val := (hb.block M h.lt).trans h
theorem PBox.cells (h : PBox W M mon n has ar am val) : W.cell? ⟨M, 0, none⟩ = some (.int .i64 mon) ∧ W.cell? ⟨M, 1, none⟩ = some (.int .i64 n) ∧ W.cell? ⟨M, 2, none⟩ = some (.bool has) ∧ W.cell? ⟨M, 3, none⟩ = some (.int .i64 ar) ∧ W.cell? ⟨M, 4, none⟩ = some (.int .i64 am) ∧ W.cell? ⟨M, 5, none⟩ = some (.string val) := by
  unfold PBox at h
  refine ⟨?_, ?_, ?_, ?_, ?_, ?_⟩ <;> simp [World.cell?, h]
theorem PBox.there (h : PBox W M mon n has ar am val) : W.there M 0 6 := by
  unfold PBox at h
  intro j hj
  match j, hj with
  | 0, _ => simp [World.cell?, World.frozen?, h]
  | 1, _ => simp [World.cell?, World.frozen?, h]
  | 2, _ => simp [World.cell?, World.frozen?, h]
  | 3, _ => simp [World.cell?, World.frozen?, h]
  | 4, _ => simp [World.cell?, World.frozen?, h]
  | 5, _ => simp [World.cell?, World.frozen?, h]
theorem PBox.put (h : PBox W M mon n has ar am val) (mon' n' : Int) (has' : Bool) (ar' am' : Int) (val' : ByteArray) : PBox (W.setCells M 0 [.int .i64 mon', .int .i64 n', .bool has', .int .i64 ar', .int .i64 am', .string val']) M mon' n' has' ar' am' val' := heap_setCells M 37 [.int .i64 mon', .int .i64 n', .bool has', .int .i64 ar', .int .i64 am', .string val'] 0 W _ h
theorem PBox.far (h : PBox W M mon n has ar am val) {N : Nat} (hN : M ≠ N) (o : Nat) (vs : List Value) : PBox (W.setCells N o vs) M mon n has ar am val := (heap_setCells_other N vs o W M hN).trans h
theorem PBox.range (h : PBox W M mon n has ar am val) : W.rangeAt M 0 [.int .i64 mon, .int .i64 n, .bool has, .int .i64 ar, .int .i64 am, .string val] := cellsR (l := [.int .i64 mon, .int .i64 n, .bool has, .int .i64 ar, .int .i64 am, .string val]) h
theorem pbox_new (w : World) (mon n : Int) (has : Bool) (ar am : Int) (val : ByteArray) : PBox (w.alloc (.cells #[.int .i64 mon, .int .i64 n, .bool has, .int .i64 ar, .int .i64 am, .string val] 37)) w.heap.size mon n has ar am val := alloc_at w _
end
theorem sizeProm : (Try.prog.info? 37).map (·.size) = some 6 := by kernel_rfl
theorem prom_one (mon n : Int) (has : Bool) (ar am : Int) (val : ByteArray) : (#[Value.int .i64 mon, .int .i64 n, .bool has, .int .i64 ar, .int .i64 am, .string val] : Array Value).all (·.oneCell') = true := by simp [Value.oneCell']

/-- The boxes of Promise. -/
structure TwoP (w : World) (N : Nat) (a : AccV) (s : Value) (W : World) : Prop where
  hN : N = w.heap.size
  bel : Below w.heap.size w W
  one : ABox W N a.pr a.pm a.has a.ar a.am a.val s
  two : PBox W (N + 1) 0 0 false 0 0 { data := #[] }
theorem TwoP.keep {w : World} {N : Nat} {a : AccV} {s : Value} {W W' : World} (h : TwoP w N a s W) (hb : Below W.heap.size W W') : TwoP w N a s W' := ⟨h.hN, h.bel.trans (hb.mono h.bel.size), h.one.keep hb, h.two.keep hb⟩
theorem TwoP.far {w : World} {N M : Nat} {a : AccV} {s : Value} {W : World} (h : TwoP w N a s W) (hM : N + 1 < M) (o : Nat) (vs : List Value) : TwoP w N a s (W.setCells M o vs) :=
  ⟨h.hN, Below.setCells h.bel (by have := h.hN; omega) o vs, (heap_setCells_other M vs o W _ (by omega)).trans h.one, h.two.far (by omega) o vs⟩

def PromS (w : World) (a : AccV) (mon f : Int) (e : Ending) (w' : World) : Prop := ∃ s, e = .returned (.tuple #[.agg #[.int .i64 mon, .int .i64 (a.com.length : Int), .bool a.has, .int .i64 a.ar, .int .i64 a.am, .string a.val], s]) ∧ Own tx 1 9 w' w.heap.size s (fromL a.com f) ∧ Below w.heap.size w w'
set_option maxHeartbeats 16000000 in
set_option maxRecDepth 100000 in
theorem Promise_any (v : Value) (a : AccV) (mon f : Int) (w : World) (h : AccR w v a) (hr : Roomy v a) (hl : a.com.length * 16 ≤ 140737488355328) : Calls Try.prog 17 #[v, .int .i64 mon, .int .i64 f] w (PromS w a mon f) := by
  obtain ⟨x, y, rfl, hxy⟩ := hr
  have HCn := Lib.hid (fun u (hu : Below w.heap.size w u) => count_any _ a u (h.keep hu))
  obtain ⟨s, he, hs⟩ := h
  obtain rfl : s = .slice x a.com.length y := by unfold AccV.agg at he; simp at he; exact he.symm
  have HSl := Lib.hid hs
  have HCl := Lib.hid (fun bf bl u (hu : Below w.heap.size w u) (h1 : Box u bf 2 (.int .i64 f)) (h2 : Box u bl 24 (.slice x a.com.length y)) => collect_any bf bl a.com _ f u h1 h2 (hs.keep hu) ⟨_, _, rfl, hxy⟩ hl)
  have h2 := two_at w (.cells #[.int .i64 a.pr, .int .i64 a.pm, .bool a.has, .int .i64 a.ar, .int .i64 a.am, .string a.val, .slice x a.com.length y] 26) (.cells #[.int .i64 0, .int .i64 0, .bool false, .int .i64 0, .int .i64 0, .string { data := #[] }] 37)
  have hx : TwoP w w.heap.size a (.slice x a.com.length y) _ := ⟨rfl, (below_new w _).alloc (by simp) _, h2.1, h2.2⟩
  have HX := Lib.hid hx
  unfold PromS
  unfold AccV.agg at HCn ⊢
  obtain ⟨L, hL⟩ : ∃ L, a.com.length = L := ⟨_, rfl⟩
  rw [hL] at HCn HSl HCl HX ⊢
  clear he hs hl hxy h2 hx hL
  have mixed : Try.prog.follows .mixedOrders = true := by kernel_rfl
  obtain ⟨pr, pm, has, ar, am, val, com⟩ := a
  simp only at HCn HSl HCl HX ⊢
  go_enter Try.func17, Try.ntmps17
  go_upto_region 1 with fail
  generalize ((w.alloc (.cells #[.int .i64 pr, .int .i64 pm, .bool has, .int .i64 ar, .int .i64 am, .string val, .slice x L y] 26)).alloc _) = W at HX ⊢
  have HX := Lib.hid (HX.out.keep (below_drew (Below.refl _ _)))
  --R1
  refine wp_region_held_drew (S := fun u => u.cell? ⟨w.heap.size, 0, none⟩ = some (.int .i64 pr) ∧ u.cell? ⟨w.heap.size, 1, none⟩ = some (.int .i64 pm) ∧ u.cell? ⟨w.heap.size, 2, none⟩ = some (.bool has) ∧ u.cell? ⟨w.heap.size, 3, none⟩ = some (.int .i64 ar) ∧ u.cell? ⟨w.heap.size, 4, none⟩ = some (.int .i64 am) ∧ u.cell? ⟨w.heap.size, 5, none⟩ = some (.string val) ∧ u.cell? ⟨w.heap.size, 6, none⟩ = some (.slice x L y)) (by kernel_rfl) (HX.out.one.cells) (fun hHeld => ?_)
  generalize W.drew = W at *
  refine wpAnyH_take (i := 0) (oi := { dst := some 9, op := Op.move (Operand.tmp 1), type := 3, pos := "accept.go:35", after := #[], guard := none }) (v := ?_) rfl (by kernel_rfl) (by kernel_rfl) (by kernel_rfl) (fun _ _ _ h => h) (Or.inl ⟨by rfl, ?_⟩) hHeld ?_
  rotate_left 1
  · intro W hSw
    (try dsimp only at hSw)
    go_simp
    try with_reducible rfl
  try simp only [Act.put, List.setIfInBounds_toArray, List.set_cons_zero, List.set_cons_succ]
  refine wpAnyH_take (i := 1) (oi := { dst := some 10, op := Op.load 26 (Operand.tmp 3), type := 26, pos := "accept.go:35", after := #[], guard := none }) (v := ?_) rfl (by kernel_rfl) (by kernel_rfl) (by kernel_rfl) (fun _ _ _ h => h) (Or.inl ⟨by rfl, ?_⟩) hHeld ?_
  rotate_left 1
  · intro W hSw
    (try dsimp only at hSw)
    go_simp
    try with_reducible rfl
  try simp only [Act.put, List.setIfInBounds_toArray, List.set_cons_zero, List.set_cons_succ]
  refine wpAnyH_take (i := 3) (oi := { dst := some 12, op := Op.fieldAddr 26 (Operand.tmp 3) 1, type := 0, pos := "accept.go:35", after := #[], guard := none }) (v := ?_) rfl (by kernel_rfl) (by kernel_rfl) (by kernel_rfl) (fun _ _ _ h => h) (Or.inl ⟨by rfl, ?_⟩) hHeld ?_
  rotate_left 1
  · intro W hSw
    (try dsimp only at hSw)
    go_simp
    try with_reducible rfl
  try simp only [Act.put, List.setIfInBounds_toArray, List.set_cons_zero, List.set_cons_succ]
  refine wpAnyH_take (i := 4) (oi := { dst := some 13, op := Op.load 4 (Operand.tmp 12), type := 4, pos := "accept.go:35", after := #[{ on := 3, ground := Ground.data }], guard := none }) (v := ?_) rfl (by kernel_rfl) (by kernel_rfl) (by kernel_rfl) (fun _ _ _ h => h) (Or.inl ⟨by rfl, ?_⟩) hHeld ?_
  rotate_left 1
  · intro W hSw
    (try dsimp only at hSw)
    go_simp
    try with_reducible rfl
  try simp only [Act.put, List.setIfInBounds_toArray, List.set_cons_zero, List.set_cons_succ]
  refine wpAnyH_take (i := 5) (oi := { dst := some 14, op := Op.fieldAddr 26 (Operand.tmp 3) 2, type := 0, pos := "accept.go:35", after := #[], guard := none }) (v := ?_) rfl (by kernel_rfl) (by kernel_rfl) (by kernel_rfl) (fun _ _ _ h => h) (Or.inl ⟨by rfl, ?_⟩) hHeld ?_
  rotate_left 1
  · intro W hSw
    (try dsimp only at hSw)
    go_simp
    try with_reducible rfl
  try simp only [Act.put, List.setIfInBounds_toArray, List.set_cons_zero, List.set_cons_succ]
  refine wpAnyH_take (i := 6) (oi := { dst := some 15, op := Op.load 23 (Operand.tmp 14), type := 23, pos := "accept.go:35", after := #[{ on := 5, ground := Ground.data }], guard := none }) (v := ?_) rfl (by kernel_rfl) (by kernel_rfl) (by kernel_rfl) (fun _ _ _ h => h) (Or.inl ⟨by rfl, ?_⟩) hHeld ?_
  rotate_left 1
  · intro W hSw
    (try dsimp only at hSw)
    go_simp
    try with_reducible rfl
  try simp only [Act.put, List.setIfInBounds_toArray, List.set_cons_zero, List.set_cons_succ]
  refine wpAnyH_take (i := 7) (oi := { dst := some 16, op := Op.fieldAddr 26 (Operand.tmp 3) 3, type := 0, pos := "accept.go:35", after := #[], guard := none }) (v := ?_) rfl (by kernel_rfl) (by kernel_rfl) (by kernel_rfl) (fun _ _ _ h => h) (Or.inl ⟨by rfl, ?_⟩) hHeld ?_
  rotate_left 1
  · intro W hSw
    (try dsimp only at hSw)
    go_simp
    try with_reducible rfl
  try simp only [Act.put, List.setIfInBounds_toArray, List.set_cons_zero, List.set_cons_succ]
  refine wpAnyH_take (i := 8) (oi := { dst := some 17, op := Op.load 9 (Operand.tmp 16), type := 9, pos := "accept.go:35", after := #[{ on := 7, ground := Ground.data }], guard := none }) (v := ?_) rfl (by kernel_rfl) (by kernel_rfl) (by kernel_rfl) (fun _ _ _ h => h) (Or.inl ⟨by rfl, ?_⟩) hHeld ?_
  rotate_left 1
  · intro W hSw
    (try dsimp only at hSw)
    go_simp
    try with_reducible rfl
  try simp only [Act.put, List.setIfInBounds_toArray, List.set_cons_zero, List.set_cons_succ]
  refine wpAnyH_ready (rs := [2, 10]) (by kernel_rfl) (by simp) ?_
  refine AllReadyH.cons (o := { dst := some 11, op := Op.call { callee := Callee.value (Operand.func 49), args := #[Operand.tmp 10], argTypes := #[26] }, type := 2, pos := "accept.go:35", after := #[{ on := 1, ground := Ground.data }], guard := none }) rfl (fun K7 hK7 => ?_) ?_
  · go_simp
    refine (HCn.out _ HX.out.bel).mono ?_
    rintro e V ⟨rfl, hb⟩
    have HX := Lib.hid (HX.out.keep hb)
    first | (have HP := Lib.hid (HP.out.keep hb)) | skip
    clear hb
    obtain ⟨W, rfl⟩ : ∃ U, U = V := ⟨_, rfl⟩
    try dsimp only
    refine hK7.out _ _ (HX.out.one.cells) (fun hHeld => ?_)
    clear hK7 K7
    try simp only [Act.put, List.setIfInBounds_toArray, List.set_cons_zero, List.set_cons_succ]
    refine wpAnyH_take (i := 9) (oi := { dst := some 18, op := Op.build 37 #[(0, Operand.tmp 9), (1, Operand.tmp 11), (2, Operand.tmp 13), (3, Operand.tmp 15), (4, Operand.tmp 17)], type := 37, pos := "accept.go:35", after := #[{ on := 0, ground := Ground.data }, { on := 2, ground := Ground.data }, { on := 4, ground := Ground.data }, { on := 6, ground := Ground.data }, { on := 8, ground := Ground.data }], guard := none }) (v := ?_) rfl (by kernel_rfl) (by kernel_rfl) (by kernel_rfl) (fun _ _ _ h => h) (Or.inl ⟨by rfl, ?_⟩) hHeld ?_
    rotate_left 1
    · intro W hSw
      (try dsimp only at hSw)
      go_simp
      try with_reducible rfl
    try simp only [Act.put, List.setIfInBounds_toArray, List.set_cons_zero, List.set_cons_succ]
    refine wpAnyH_ready (rs := [10]) (by kernel_rfl) (by simp) ?_
    refine AllReadyH.cons (o := { dst := some 8, op := Op.alloc 37, type := 0, pos := "accept.go:35", after := #[], guard := none }) rfl (fun K7 hK7 => ?_) ?_
    · go_simp
      have HMl : Hid (w.heap.size + 1 < W.heap.size) := Lib.hid HX.out.two.lt
      have HP := Lib.hid (pbox_new W 0 0 false 0 0 { data := #[] })
      have HX := Lib.hid (HX.out.keep (below_new W (.cells #[.int .i64 0, .int .i64 0, .bool false, .int .i64 0, .int .i64 0, .string { data := #[] }] 37)))
      obtain ⟨M, hM⟩ : ∃ M, W.heap.size = M := ⟨_, rfl⟩
      rw [hM] at HP HMl ⊢
      clear hM
      generalize W.alloc (.cells #[.int .i64 0, .int .i64 0, .bool false, .int .i64 0, .int .i64 0, .string { data := #[] }] 37) = W at HX HP ⊢
      refine hK7.out _ _ (HX.out.one.cells) (fun hHeld => ?_)
      clear hK7 K7
      try simp only [Act.put, List.setIfInBounds_toArray, List.set_cons_zero, List.set_cons_succ]
      refine wpAnyH_ready (rs := [11]) (by kernel_rfl) (by simp) ?_
      refine AllReadyH.cons (o := { dst := none, op := Op.store 37 (Operand.tmp 8) (Operand.tmp 18), type := 0, pos := "accept.go:35", after := #[{ on := 10, ground := Ground.data }, { on := 9, ground := Ground.data }, { on := 2, ground := Ground.chain }, { on := 0, ground := Ground.phase }, { on := 1, ground := Ground.phase }, { on := 2, ground := Ground.phase }, { on := 3, ground := Ground.phase }, { on := 4, ground := Ground.phase }, { on := 5, ground := Ground.phase }, { on := 6, ground := Ground.phase }, { on := 7, ground := Ground.phase }, { on := 8, ground := Ground.phase }, { on := 9, ground := Ground.phase }, { on := 10, ground := Ground.phase }], guard := none }) rfl (fun K7 hK7 => ?_) ?_
      · refine wp_store_mid 37 _ _ rfl M 0 #[.int .i64 mon, .int .i64 (L : Int), .bool has, .int .i64 ar, .int .i64 am, .string val] rfl rfl HP.out.there sizeProm (prom_one _ _ _ _ _ _) ?_
        have HX := Lib.hid (HX.out.far HMl.out 0 [.int .i64 mon, .int .i64 (L : Int), .bool has, .int .i64 ar, .int .i64 am, .string val])
        have HP := Lib.hid (HP.out.put mon (L : Int) has ar am val)
        generalize (W.setCells M 0 (#[.int .i64 mon, .int .i64 (L : Int), .bool has, .int .i64 ar, .int .i64 am, .string val] : Array Value).toList) = W at HX HP ⊢
        try dsimp only
        refine hK7.out _ _ (HX.out.one.cells) (fun hHeld => ?_)
        clear hK7 K7
        try simp only [Act.put, List.setIfInBounds_toArray, List.set_cons_zero, List.set_cons_succ]
        refine wpAnyH_done (by kernel_rfl) ?_ _
        clear hHeld
        go_upto_region 2 with fail
        have HX := Lib.hid (HX.out.keep (below_drew (Below.refl _ _)))
        have HP := Lib.hid (HP.out.keep (below_drew (Below.refl _ _)))
        refine wp_region_held_drew (S := fun u => (u.cell? ⟨w.heap.size, 0, none⟩ = some (.int .i64 pr) ∧ u.cell? ⟨w.heap.size, 1, none⟩ = some (.int .i64 pm) ∧ u.cell? ⟨w.heap.size, 2, none⟩ = some (.bool has) ∧ u.cell? ⟨w.heap.size, 3, none⟩ = some (.int .i64 ar) ∧ u.cell? ⟨w.heap.size, 4, none⟩ = some (.int .i64 am) ∧ u.cell? ⟨w.heap.size, 5, none⟩ = some (.string val) ∧ u.cell? ⟨w.heap.size, 6, none⟩ = some (.slice x L y)) ∧ (u.cell? ⟨M, 0, none⟩ = some (.int .i64 mon) ∧ u.cell? ⟨M, 1, none⟩ = some (.int .i64 (L : Int)) ∧ u.cell? ⟨M, 2, none⟩ = some (.bool has) ∧ u.cell? ⟨M, 3, none⟩ = some (.int .i64 ar) ∧ u.cell? ⟨M, 4, none⟩ = some (.int .i64 am) ∧ u.cell? ⟨M, 5, none⟩ = some (.string val))) (by kernel_rfl) (⟨HX.out.one.cells, HP.out.cells⟩) (fun hHeld => ?_)
        generalize W.drew = W at *
        refine wpAnyH_take (i := 0) (oi := { dst := some 19, op := Op.load 37 (Operand.tmp 8), type := 37, pos := "accept.go:36", after := #[], guard := none }) (v := ?_) rfl (by kernel_rfl) (by kernel_rfl) (by kernel_rfl) (fun _ _ _ h => h) (Or.inl ⟨by rfl, ?_⟩) hHeld ?_
        rotate_left 1
        · intro W hSw
          (try dsimp only at hSw)
          go_simp
          try with_reducible rfl
        try simp only [Act.put, List.setIfInBounds_toArray, List.set_cons_zero, List.set_cons_succ]
        refine wpAnyH_take (i := 1) (oi := { dst := some 20, op := Op.fieldAddr 26 (Operand.tmp 3) 4, type := 0, pos := "accept.go:36", after := #[], guard := none }) (v := ?_) rfl (by kernel_rfl) (by kernel_rfl) (by kernel_rfl) (fun _ _ _ h => h) (Or.inl ⟨by rfl, ?_⟩) hHeld ?_
        rotate_left 1
        · intro W hSw
          (try dsimp only at hSw)
          go_simp
          try with_reducible rfl
        try simp only [Act.put, List.setIfInBounds_toArray, List.set_cons_zero, List.set_cons_succ]
        refine wpAnyH_take (i := 2) (oi := { dst := some 21, op := Op.load 24 (Operand.tmp 20), type := 24, pos := "accept.go:36", after := #[{ on := 1, ground := Ground.data }], guard := none }) (v := ?_) rfl (by kernel_rfl) (by kernel_rfl) (by kernel_rfl) (fun _ _ _ h => h) (Or.inl ⟨by rfl, ?_⟩) hHeld ?_
        rotate_left 1
        · intro W hSw
          (try dsimp only at hSw)
          go_simp
          try with_reducible rfl
        try simp only [Act.put, List.setIfInBounds_toArray, List.set_cons_zero, List.set_cons_succ]
        refine wpAnyH_take (i := 3) (oi := { dst := some 22, op := Op.move (Operand.tmp 2), type := 2, pos := "accept.go:36", after := #[], guard := none }) (v := ?_) rfl (by kernel_rfl) (by kernel_rfl) (by kernel_rfl) (fun _ _ _ h => h) (Or.inl ⟨by rfl, ?_⟩) hHeld ?_
        rotate_left 1
        · intro W hSw
          (try dsimp only at hSw)
          go_simp
          try with_reducible rfl
        try simp only [Act.put, List.setIfInBounds_toArray, List.set_cons_zero, List.set_cons_succ]
        refine wpAnyH_ready (rs := [4]) (by kernel_rfl) (by simp) ?_
        refine AllReadyH.cons (o := { dst := some 23, op := Op.call { callee := Callee.value (Operand.func 50), args := #[Operand.tmp 21, Operand.tmp 22], argTypes := #[24, 2] }, type := 81, pos := "accept.go:36", after := #[{ on := 2, ground := Ground.data }, { on := 3, ground := Ground.data }], guard := none }) rfl (fun K7 hK7 => ?_) ?_
        · go_simp
          refine (from_any _ _ _ _ _).mono ?_
          rintro e V ⟨bl, bf, rfl, hbf, hbl, -, -, hb⟩
          have HX := Lib.hid (HX.out.keep hb)
          have HP := Lib.hid (HP.out.keep hb)
          have HBf := Lib.hid hbf; have HBl := Lib.hid hbl
          clear hb hbf hbl
          obtain ⟨W, rfl⟩ : ∃ U, U = V := ⟨_, rfl⟩
          try dsimp only
          refine hK7.out _ _ (⟨HX.out.one.cells, HP.out.cells⟩) (fun hHeld => ?_)
          clear hK7 K7
          try simp only [Act.put, List.setIfInBounds_toArray, List.set_cons_zero, List.set_cons_succ]
          refine wpAnyH_ready (rs := [5]) (by kernel_rfl) (by simp) ?_
          refine AllReadyH.cons (o := { dst := some 24, op := Op.call { callee := Callee.value (Operand.func 51), args := #[Operand.tmp 23], argTypes := #[81] }, type := 24, pos := "accept.go:36", after := #[{ on := 4, ground := Ground.data }, { on := 4, ground := Ground.chain }], guard := none }) rfl (fun K7 hK7 => ?_) ?_
          · go_simp
            refine (HCl.out bf bl _ HX.out.bel HBf.out HBl.out).mono ?_
            rintro e V ⟨vs, rfl, ho, hb⟩
            have HB5 := Lib.hid (HX.out.two.lt)
            have HO := Lib.hid (ho.mono (show w.heap.size + 1 + 1 ≤ _ from HX.out.two.lt))
            obtain ⟨xs, ys, rfl⟩ := ho.slice
            have HX := Lib.hid (HX.out.keep hb)
            have HP := Lib.hid (HP.out.keep hb)
            clear hb ho
            obtain ⟨W, rfl⟩ : ∃ U, U = V := ⟨_, rfl⟩
            try dsimp only
            refine hK7.out _ _ (⟨HX.out.one.cells, HP.out.cells⟩) (fun hHeld => ?_)
            clear hK7 K7
            try simp only [Act.put, List.setIfInBounds_toArray, List.set_cons_zero, List.set_cons_succ]
            refine wpAnyH_ready (rs := [6]) (by kernel_rfl) (by simp) ?_
            refine AllReadyH.cons (o := { dst := none, op := Op.store 37 (Operand.tmp 6) (Operand.tmp 19), type := 0, pos := "accept.go:36", after := #[{ on := 0, ground := Ground.data }, { on := 5, ground := Ground.chain }, { on := 0, ground := Ground.phase }, { on := 1, ground := Ground.textOnly Departure.lateStores }, { on := 2, ground := Ground.textOnly Departure.lateStores }, { on := 3, ground := Ground.textOnly Departure.lateStores }, { on := 4, ground := Ground.textOnly Departure.lateStoresUnsure }, { on := 5, ground := Ground.textOnly Departure.lateStoresUnsure }], guard := none }) rfl (fun K7 hK7 => ?_) ?_
            · refine wp_store_mid 37 _ _ rfl (w.heap.size + 1) 0 #[.int .i64 mon, .int .i64 (L : Int), .bool has, .int .i64 ar, .int .i64 am, .string val] rfl rfl HX.out.two.there sizeProm (prom_one _ _ _ _ _ _) ?_
              have HR := Lib.hid (HX.out.two.put mon (L : Int) has ar am val)
              have HO := Lib.hid (Own.farC (N := w.heap.size + 1) (by omega) [.int .i64 mon, .int .i64 (L : Int), .bool has, .int .i64 ar, .int .i64 am, .string val] 0 HO.out)
              have HBe := Lib.hid (Below.setCells HX.out.bel (b := w.heap.size + 1) (by omega) 0 [.int .i64 mon, .int .i64 (L : Int), .bool has, .int .i64 ar, .int .i64 am, .string val])
              have HOne : Hid (ABox (W.setCells (w.heap.size + 1) 0 [.int .i64 mon, .int .i64 (L : Int), .bool has, .int .i64 ar, .int .i64 am, .string val]) w.heap.size pr pm has ar am val (.slice x L y)) := Lib.hid ((heap_setCells_other (w.heap.size + 1) _ 0 W _ (by omega)).trans HX.out.one)
              have HP := Lib.hid (HP.out.far (by have := HMl.out; omega) 0 [.int .i64 mon, .int .i64 (L : Int), .bool has, .int .i64 ar, .int .i64 am, .string val] (N := w.heap.size + 1))
              generalize (W.setCells (w.heap.size + 1) 0 (#[.int .i64 mon, .int .i64 (L : Int), .bool has, .int .i64 ar, .int .i64 am, .string val] : Array Value).toList) = W at HR HO HBe HOne HP ⊢
              try dsimp only
              refine hK7.out _ _ (⟨HOne.out.cells, HP.out.cells⟩) (fun hHeld => ?_)
              clear hK7 K7
              try simp only [Act.put, List.setIfInBounds_toArray, List.set_cons_zero, List.set_cons_succ]
              refine wpAnyH_take (i := 7) (oi := { dst := some 7, op := Op.assign (Operand.tmp 24), type := 24, pos := "accept.go:36", after := #[{ on := 5, ground := Ground.data }, { on := 6, ground := Ground.chain }, { on := 0, ground := Ground.phase }, { on := 1, ground := Ground.phase }, { on := 2, ground := Ground.phase }, { on := 3, ground := Ground.phase }, { on := 4, ground := Ground.phase }, { on := 5, ground := Ground.phase }, { on := 6, ground := Ground.phase }], guard := none }) (v := ?_) rfl (by kernel_rfl) (by kernel_rfl) (by kernel_rfl) (fun _ _ _ h => h) (Or.inl ⟨by rfl, ?_⟩) hHeld ?_
              rotate_left 1
              · intro W hSw
                (try dsimp only at hSw)
                go_simp
                try with_reducible rfl
              try simp only [Act.put, List.setIfInBounds_toArray, List.set_cons_zero, List.set_cons_succ]
              refine wpAnyH_done (by kernel_rfl) ?_ _
              clear hHeld
              go_wp2
              refine bodyPost_ret (ret_cell_tmp rfl rfl HR.out.range Try.underlying37 rfl sizeProm) rfl ?_
              exact ⟨_, rfl, HO.out.mono (by omega), HBe.out⟩
            exact AllReadyH.nil
          exact AllReadyH.nil
        exact AllReadyH.nil
      exact AllReadyH.nil
    exact AllReadyH.nil
  refine AllReadyH.cons (o := { dst := some 8, op := Op.alloc 37, type := 0, pos := "accept.go:35", after := #[], guard := none }) rfl (fun K7 hK7 => ?_) ?_
  · go_simp
    have HMl : Hid (w.heap.size + 1 < W.heap.size) := Lib.hid HX.out.two.lt
    have HP := Lib.hid (pbox_new W 0 0 false 0 0 { data := #[] })
    have HX := Lib.hid (HX.out.keep (below_new W (.cells #[.int .i64 0, .int .i64 0, .bool false, .int .i64 0, .int .i64 0, .string { data := #[] }] 37)))
    obtain ⟨M, hM⟩ : ∃ M, W.heap.size = M := ⟨_, rfl⟩
    rw [hM] at HP HMl ⊢
    clear hM
    generalize W.alloc (.cells #[.int .i64 0, .int .i64 0, .bool false, .int .i64 0, .int .i64 0, .string { data := #[] }] 37) = W at HX HP ⊢
    refine hK7.out _ _ (HX.out.one.cells) (fun hHeld => ?_)
    clear hK7 K7
    try simp only [Act.put, List.setIfInBounds_toArray, List.set_cons_zero, List.set_cons_succ]
    refine wpAnyH_ready (rs := [2]) (by kernel_rfl) (by simp) ?_
    refine AllReadyH.cons (o := { dst := some 11, op := Op.call { callee := Callee.value (Operand.func 49), args := #[Operand.tmp 10], argTypes := #[26] }, type := 2, pos := "accept.go:35", after := #[{ on := 1, ground := Ground.data }], guard := none }) rfl (fun K7 hK7 => ?_) ?_
    · go_simp
      refine (HCn.out _ HX.out.bel).mono ?_
      rintro e V ⟨rfl, hb⟩
      have HX := Lib.hid (HX.out.keep hb)
      first | (have HP := Lib.hid (HP.out.keep hb)) | skip
      clear hb
      obtain ⟨W, rfl⟩ : ∃ U, U = V := ⟨_, rfl⟩
      try dsimp only
      refine hK7.out _ _ (HX.out.one.cells) (fun hHeld => ?_)
      clear hK7 K7
      try simp only [Act.put, List.setIfInBounds_toArray, List.set_cons_zero, List.set_cons_succ]
      refine wpAnyH_take (i := 9) (oi := { dst := some 18, op := Op.build 37 #[(0, Operand.tmp 9), (1, Operand.tmp 11), (2, Operand.tmp 13), (3, Operand.tmp 15), (4, Operand.tmp 17)], type := 37, pos := "accept.go:35", after := #[{ on := 0, ground := Ground.data }, { on := 2, ground := Ground.data }, { on := 4, ground := Ground.data }, { on := 6, ground := Ground.data }, { on := 8, ground := Ground.data }], guard := none }) (v := ?_) rfl (by kernel_rfl) (by kernel_rfl) (by kernel_rfl) (fun _ _ _ h => h) (Or.inl ⟨by rfl, ?_⟩) hHeld ?_
      rotate_left 1
      · intro W hSw
        (try dsimp only at hSw)
        go_simp
        try with_reducible rfl
      try simp only [Act.put, List.setIfInBounds_toArray, List.set_cons_zero, List.set_cons_succ]
      refine wpAnyH_ready (rs := [11]) (by kernel_rfl) (by simp) ?_
      refine AllReadyH.cons (o := { dst := none, op := Op.store 37 (Operand.tmp 8) (Operand.tmp 18), type := 0, pos := "accept.go:35", after := #[{ on := 10, ground := Ground.data }, { on := 9, ground := Ground.data }, { on := 2, ground := Ground.chain }, { on := 0, ground := Ground.phase }, { on := 1, ground := Ground.phase }, { on := 2, ground := Ground.phase }, { on := 3, ground := Ground.phase }, { on := 4, ground := Ground.phase }, { on := 5, ground := Ground.phase }, { on := 6, ground := Ground.phase }, { on := 7, ground := Ground.phase }, { on := 8, ground := Ground.phase }, { on := 9, ground := Ground.phase }, { on := 10, ground := Ground.phase }], guard := none }) rfl (fun K7 hK7 => ?_) ?_
      · refine wp_store_mid 37 _ _ rfl M 0 #[.int .i64 mon, .int .i64 (L : Int), .bool has, .int .i64 ar, .int .i64 am, .string val] rfl rfl HP.out.there sizeProm (prom_one _ _ _ _ _ _) ?_
        have HX := Lib.hid (HX.out.far HMl.out 0 [.int .i64 mon, .int .i64 (L : Int), .bool has, .int .i64 ar, .int .i64 am, .string val])
        have HP := Lib.hid (HP.out.put mon (L : Int) has ar am val)
        generalize (W.setCells M 0 (#[.int .i64 mon, .int .i64 (L : Int), .bool has, .int .i64 ar, .int .i64 am, .string val] : Array Value).toList) = W at HX HP ⊢
        try dsimp only
        refine hK7.out _ _ (HX.out.one.cells) (fun hHeld => ?_)
        clear hK7 K7
        try simp only [Act.put, List.setIfInBounds_toArray, List.set_cons_zero, List.set_cons_succ]
        refine wpAnyH_done (by kernel_rfl) ?_ _
        clear hHeld
        go_upto_region 2 with fail
        have HX := Lib.hid (HX.out.keep (below_drew (Below.refl _ _)))
        have HP := Lib.hid (HP.out.keep (below_drew (Below.refl _ _)))
        refine wp_region_held_drew (S := fun u => (u.cell? ⟨w.heap.size, 0, none⟩ = some (.int .i64 pr) ∧ u.cell? ⟨w.heap.size, 1, none⟩ = some (.int .i64 pm) ∧ u.cell? ⟨w.heap.size, 2, none⟩ = some (.bool has) ∧ u.cell? ⟨w.heap.size, 3, none⟩ = some (.int .i64 ar) ∧ u.cell? ⟨w.heap.size, 4, none⟩ = some (.int .i64 am) ∧ u.cell? ⟨w.heap.size, 5, none⟩ = some (.string val) ∧ u.cell? ⟨w.heap.size, 6, none⟩ = some (.slice x L y)) ∧ (u.cell? ⟨M, 0, none⟩ = some (.int .i64 mon) ∧ u.cell? ⟨M, 1, none⟩ = some (.int .i64 (L : Int)) ∧ u.cell? ⟨M, 2, none⟩ = some (.bool has) ∧ u.cell? ⟨M, 3, none⟩ = some (.int .i64 ar) ∧ u.cell? ⟨M, 4, none⟩ = some (.int .i64 am) ∧ u.cell? ⟨M, 5, none⟩ = some (.string val))) (by kernel_rfl) (⟨HX.out.one.cells, HP.out.cells⟩) (fun hHeld => ?_)
        generalize W.drew = W at *
        refine wpAnyH_take (i := 0) (oi := { dst := some 19, op := Op.load 37 (Operand.tmp 8), type := 37, pos := "accept.go:36", after := #[], guard := none }) (v := ?_) rfl (by kernel_rfl) (by kernel_rfl) (by kernel_rfl) (fun _ _ _ h => h) (Or.inl ⟨by rfl, ?_⟩) hHeld ?_
        rotate_left 1
        · intro W hSw
          (try dsimp only at hSw)
          go_simp
          try with_reducible rfl
        try simp only [Act.put, List.setIfInBounds_toArray, List.set_cons_zero, List.set_cons_succ]
        refine wpAnyH_take (i := 1) (oi := { dst := some 20, op := Op.fieldAddr 26 (Operand.tmp 3) 4, type := 0, pos := "accept.go:36", after := #[], guard := none }) (v := ?_) rfl (by kernel_rfl) (by kernel_rfl) (by kernel_rfl) (fun _ _ _ h => h) (Or.inl ⟨by rfl, ?_⟩) hHeld ?_
        rotate_left 1
        · intro W hSw
          (try dsimp only at hSw)
          go_simp
          try with_reducible rfl
        try simp only [Act.put, List.setIfInBounds_toArray, List.set_cons_zero, List.set_cons_succ]
        refine wpAnyH_take (i := 2) (oi := { dst := some 21, op := Op.load 24 (Operand.tmp 20), type := 24, pos := "accept.go:36", after := #[{ on := 1, ground := Ground.data }], guard := none }) (v := ?_) rfl (by kernel_rfl) (by kernel_rfl) (by kernel_rfl) (fun _ _ _ h => h) (Or.inl ⟨by rfl, ?_⟩) hHeld ?_
        rotate_left 1
        · intro W hSw
          (try dsimp only at hSw)
          go_simp
          try with_reducible rfl
        try simp only [Act.put, List.setIfInBounds_toArray, List.set_cons_zero, List.set_cons_succ]
        refine wpAnyH_take (i := 3) (oi := { dst := some 22, op := Op.move (Operand.tmp 2), type := 2, pos := "accept.go:36", after := #[], guard := none }) (v := ?_) rfl (by kernel_rfl) (by kernel_rfl) (by kernel_rfl) (fun _ _ _ h => h) (Or.inl ⟨by rfl, ?_⟩) hHeld ?_
        rotate_left 1
        · intro W hSw
          (try dsimp only at hSw)
          go_simp
          try with_reducible rfl
        try simp only [Act.put, List.setIfInBounds_toArray, List.set_cons_zero, List.set_cons_succ]
        refine wpAnyH_ready (rs := [4]) (by kernel_rfl) (by simp) ?_
        refine AllReadyH.cons (o := { dst := some 23, op := Op.call { callee := Callee.value (Operand.func 50), args := #[Operand.tmp 21, Operand.tmp 22], argTypes := #[24, 2] }, type := 81, pos := "accept.go:36", after := #[{ on := 2, ground := Ground.data }, { on := 3, ground := Ground.data }], guard := none }) rfl (fun K7 hK7 => ?_) ?_
        · go_simp
          refine (from_any _ _ _ _ _).mono ?_
          rintro e V ⟨bl, bf, rfl, hbf, hbl, -, -, hb⟩
          have HX := Lib.hid (HX.out.keep hb)
          have HP := Lib.hid (HP.out.keep hb)
          have HBf := Lib.hid hbf; have HBl := Lib.hid hbl
          clear hb hbf hbl
          obtain ⟨W, rfl⟩ : ∃ U, U = V := ⟨_, rfl⟩
          try dsimp only
          refine hK7.out _ _ (⟨HX.out.one.cells, HP.out.cells⟩) (fun hHeld => ?_)
          clear hK7 K7
          try simp only [Act.put, List.setIfInBounds_toArray, List.set_cons_zero, List.set_cons_succ]
          refine wpAnyH_ready (rs := [5]) (by kernel_rfl) (by simp) ?_
          refine AllReadyH.cons (o := { dst := some 24, op := Op.call { callee := Callee.value (Operand.func 51), args := #[Operand.tmp 23], argTypes := #[81] }, type := 24, pos := "accept.go:36", after := #[{ on := 4, ground := Ground.data }, { on := 4, ground := Ground.chain }], guard := none }) rfl (fun K7 hK7 => ?_) ?_
          · go_simp
            refine (HCl.out bf bl _ HX.out.bel HBf.out HBl.out).mono ?_
            rintro e V ⟨vs, rfl, ho, hb⟩
            have HB5 := Lib.hid (HX.out.two.lt)
            have HO := Lib.hid (ho.mono (show w.heap.size + 1 + 1 ≤ _ from HX.out.two.lt))
            obtain ⟨xs, ys, rfl⟩ := ho.slice
            have HX := Lib.hid (HX.out.keep hb)
            have HP := Lib.hid (HP.out.keep hb)
            clear hb ho
            obtain ⟨W, rfl⟩ : ∃ U, U = V := ⟨_, rfl⟩
            try dsimp only
            refine hK7.out _ _ (⟨HX.out.one.cells, HP.out.cells⟩) (fun hHeld => ?_)
            clear hK7 K7
            try simp only [Act.put, List.setIfInBounds_toArray, List.set_cons_zero, List.set_cons_succ]
            refine wpAnyH_ready (rs := [6]) (by kernel_rfl) (by simp) ?_
            refine AllReadyH.cons (o := { dst := none, op := Op.store 37 (Operand.tmp 6) (Operand.tmp 19), type := 0, pos := "accept.go:36", after := #[{ on := 0, ground := Ground.data }, { on := 5, ground := Ground.chain }, { on := 0, ground := Ground.phase }, { on := 1, ground := Ground.textOnly Departure.lateStores }, { on := 2, ground := Ground.textOnly Departure.lateStores }, { on := 3, ground := Ground.textOnly Departure.lateStores }, { on := 4, ground := Ground.textOnly Departure.lateStoresUnsure }, { on := 5, ground := Ground.textOnly Departure.lateStoresUnsure }], guard := none }) rfl (fun K7 hK7 => ?_) ?_
            · refine wp_store_mid 37 _ _ rfl (w.heap.size + 1) 0 #[.int .i64 mon, .int .i64 (L : Int), .bool has, .int .i64 ar, .int .i64 am, .string val] rfl rfl HX.out.two.there sizeProm (prom_one _ _ _ _ _ _) ?_
              have HR := Lib.hid (HX.out.two.put mon (L : Int) has ar am val)
              have HO := Lib.hid (Own.farC (N := w.heap.size + 1) (by omega) [.int .i64 mon, .int .i64 (L : Int), .bool has, .int .i64 ar, .int .i64 am, .string val] 0 HO.out)
              have HBe := Lib.hid (Below.setCells HX.out.bel (b := w.heap.size + 1) (by omega) 0 [.int .i64 mon, .int .i64 (L : Int), .bool has, .int .i64 ar, .int .i64 am, .string val])
              have HOne : Hid (ABox (W.setCells (w.heap.size + 1) 0 [.int .i64 mon, .int .i64 (L : Int), .bool has, .int .i64 ar, .int .i64 am, .string val]) w.heap.size pr pm has ar am val (.slice x L y)) := Lib.hid ((heap_setCells_other (w.heap.size + 1) _ 0 W _ (by omega)).trans HX.out.one)
              have HP := Lib.hid (HP.out.far (by have := HMl.out; omega) 0 [.int .i64 mon, .int .i64 (L : Int), .bool has, .int .i64 ar, .int .i64 am, .string val] (N := w.heap.size + 1))
              generalize (W.setCells (w.heap.size + 1) 0 (#[.int .i64 mon, .int .i64 (L : Int), .bool has, .int .i64 ar, .int .i64 am, .string val] : Array Value).toList) = W at HR HO HBe HOne HP ⊢
              try dsimp only
              refine hK7.out _ _ (⟨HOne.out.cells, HP.out.cells⟩) (fun hHeld => ?_)
              clear hK7 K7
              try simp only [Act.put, List.setIfInBounds_toArray, List.set_cons_zero, List.set_cons_succ]
              refine wpAnyH_take (i := 7) (oi := { dst := some 7, op := Op.assign (Operand.tmp 24), type := 24, pos := "accept.go:36", after := #[{ on := 5, ground := Ground.data }, { on := 6, ground := Ground.chain }, { on := 0, ground := Ground.phase }, { on := 1, ground := Ground.phase }, { on := 2, ground := Ground.phase }, { on := 3, ground := Ground.phase }, { on := 4, ground := Ground.phase }, { on := 5, ground := Ground.phase }, { on := 6, ground := Ground.phase }], guard := none }) (v := ?_) rfl (by kernel_rfl) (by kernel_rfl) (by kernel_rfl) (fun _ _ _ h => h) (Or.inl ⟨by rfl, ?_⟩) hHeld ?_
              rotate_left 1
              · intro W hSw
                (try dsimp only at hSw)
                go_simp
                try with_reducible rfl
              try simp only [Act.put, List.setIfInBounds_toArray, List.set_cons_zero, List.set_cons_succ]
              refine wpAnyH_done (by kernel_rfl) ?_ _
              clear hHeld
              go_wp2
              refine bodyPost_ret (ret_cell_tmp rfl rfl HR.out.range Try.underlying37 rfl sizeProm) rfl ?_
              exact ⟨_, rfl, HO.out.mono (by omega), HBe.out⟩
            exact AllReadyH.nil
          exact AllReadyH.nil
        exact AllReadyH.nil
      exact AllReadyH.nil
    exact AllReadyH.nil
  exact AllReadyH.nil
  --R1E
end Go.Proofs.Ytmdipcemhaomhaa.crush
