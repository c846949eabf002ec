/- The document's Promise. -/
import Derived.Test.YtmdipcemhaomhaaRows
import Derived.Test.YtmdipcemhaomhaaAccRVal
namespace Go.Proofs.Ytmdipcemhaomhaa.crush
open Go.RowKit
open Go.Proofs.Ytmdipcemhaomhaa.kit Go.Proofs.Ytmdipcemhaomhaa.own
set_option linter.unusedVariables false
set_option linter.unusedSimpArgs false

theorem valL_all {l : List ByteArray} (h : l.length ≤ 4096) (f : Int) : valL l f 4096 = fromL l f := by
  unfold valL
  refine List.take_of_length_le ?_
  have : (fromL l f).length ≤ l.length := by unfold fromL; split <;> simp
  have e : (4096 : Int).toNat = 4096 := rfl
  omega
set_option maxHeartbeats 16000000 in
set_option maxRecDepth 100000 in
theorem rPromise_any (v : Value) (a : AccV) (mon f : Int) (w : World) (h : AccR w v a) (hl : a.com.length ≤ 4096) : Calls Try.prog 18 #[v, .int .i64 mon, .int .i64 f] w (PromS w a mon f) := by
  have HCl := Lib.hid (fun u (hu : Below w.heap.size w u) => rValues_any v a f 4096 u (h.keep hu) (by omega))
  rw [valL_all hl] at HCl
  obtain ⟨s, rfl, hs⟩ := h
  obtain ⟨x, y, rfl⟩ := hs.slice
  have h2 := two_at w (.cells #[.int .i64 a.pr, .int .i64 a.pm, .bool a.has, .int .i64 a.ar, .int .i64 a.am, .string a.val, .slice x a.com.length y] 26) (.cells #[.int .i64 0, .int .i64 0, .bool false, .int .i64 0, .int .i64 0, .string { data := #[] }] 37)
  have hx : TwoP w w.heap.size a (.slice x a.com.length y) _ := ⟨rfl, (below_new w _).alloc (by simp) _, h2.1, h2.2⟩
  have HX := Lib.hid hx
  unfold PromS
  unfold AccV.agg at HCl ⊢
  obtain ⟨L, hL⟩ : ∃ L, a.com.length = L := ⟨_, rfl⟩
  rw [hL] at HCl HX ⊢
  clear hs hl h2 hx hL
  have mixed : Try.prog.follows .mixedOrders = true := by kernel_rfl
  obtain ⟨pr, pm, has, ar, am, val, com⟩ := a
  simp only at HCl HX ⊢
  go_enter Try.func18, Try.ntmps18
  go_upto_region 1 with fail
  generalize ((w.alloc (.cells #[.int .i64 pr, .int .i64 pm, .bool has, .int .i64 ar, .int .i64 am, .string val, .slice x L y] 26)).alloc _) = W at HX ⊢
  obtain ⟨c0, c1, c2, c3, c4, c5, c6⟩ := HX.out.one.cells
  simp only at c0 c1 c2 c3 c4 c5 c6
  go_upto_region 2 with fail
  have HP := Lib.hid (pbox_new W mon (L : Int) has ar am val)
  have HMl : Hid (w.heap.size + 1 < W.heap.size) := Lib.hid HX.out.two.lt
  have HX := Lib.hid (HX.out.keep (below_new W (.cells #[.int .i64 mon, .int .i64 (L : Int), .bool has, .int .i64 ar, .int .i64 am, .string val] 37)))
  clear c0 c1 c2 c3 c4 c5 c6
  generalize W.alloc _ = W1 at HX HP ⊢
  generalize W.heap.size = M at HP HMl ⊢
  obtain ⟨W, rfl⟩ : ∃ U, U = W1 := ⟨_, rfl⟩
  have HX := Lib.hid (HX.out.keep (below_drew (Below.refl _ _)))
  have HP := Lib.hid (HP.out.keep (below_drew (Below.refl _ _)))
  --R2
  refine wp_region_held_drew (S := fun u => (u.cell? ⟨w.heap.size, 0, none⟩ = some (.int .i64 pr) ∧ u.cell? ⟨w.heap.size, 1, none⟩ = some (.int .i64 pm) ∧ u.cell? ⟨w.heap.size, 2, none⟩ = some (.bool has) ∧ u.cell? ⟨w.heap.size, 3, none⟩ = some (.int .i64 ar) ∧ u.cell? ⟨w.heap.size, 4, none⟩ = some (.int .i64 am) ∧ u.cell? ⟨w.heap.size, 5, none⟩ = some (.string val) ∧ u.cell? ⟨w.heap.size, 6, none⟩ = some (.slice x L y)) ∧ (u.cell? ⟨M, 0, none⟩ = some (.int .i64 mon) ∧ u.cell? ⟨M, 1, none⟩ = some (.int .i64 (L : Int)) ∧ u.cell? ⟨M, 2, none⟩ = some (.bool has) ∧ u.cell? ⟨M, 3, none⟩ = some (.int .i64 ar) ∧ u.cell? ⟨M, 4, none⟩ = some (.int .i64 am) ∧ u.cell? ⟨M, 5, none⟩ = some (.string val))) (by kernel_rfl) (⟨HX.out.one.cells, HP.out.cells⟩) (fun hHeld => ?_)
  generalize W.drew = W at *
  refine wpAnyH_take (i := 0) (oi := { dst := some 20, op := Op.load 37 (Operand.tmp 8), type := 37, pos := "ref.go:81", after := #[], guard := none }) (v := ?_) rfl (by kernel_rfl) (by kernel_rfl) (by kernel_rfl) (fun _ _ _ h => h) (Or.inl ⟨by rfl, ?_⟩) hHeld ?_
  rotate_left 1
  · intro W hSw
    (try dsimp only at hSw)
    go_simp
    try with_reducible rfl
  try simp only [Act.put, List.setIfInBounds_toArray, List.set_cons_zero, List.set_cons_succ]
  refine wpAnyH_take (i := 1) (oi := { dst := some 21, op := Op.load 26 (Operand.tmp 3), type := 26, pos := "ref.go:81", after := #[], guard := none }) (v := ?_) rfl (by kernel_rfl) (by kernel_rfl) (by kernel_rfl) (fun _ _ _ h => h) (Or.inl ⟨by rfl, ?_⟩) hHeld ?_
  rotate_left 1
  · intro W hSw
    (try dsimp only at hSw)
    go_simp
    try with_reducible rfl
  try simp only [Act.put, List.setIfInBounds_toArray, List.set_cons_zero, List.set_cons_succ]
  refine wpAnyH_take (i := 2) (oi := { dst := some 22, op := Op.move (Operand.tmp 2), type := 2, pos := "ref.go:81", after := #[], guard := none }) (v := ?_) rfl (by kernel_rfl) (by kernel_rfl) (by kernel_rfl) (fun _ _ _ h => h) (Or.inl ⟨by rfl, ?_⟩) hHeld ?_
  rotate_left 1
  · intro W hSw
    (try dsimp only at hSw)
    go_simp
    try with_reducible rfl
  try simp only [Act.put, List.setIfInBounds_toArray, List.set_cons_zero, List.set_cons_succ]
  refine wpAnyH_ready (rs := [3]) (by kernel_rfl) (by simp) ?_
  refine AllReadyH.cons (o := { dst := some 23, op := Op.call { callee := Callee.value (Operand.func 21), args := #[Operand.tmp 21, Operand.tmp 22, Operand.const (Value.int IntKind.i64 4096)], argTypes := #[26, 2, 3] }, type := 24, pos := "ref.go:81", after := #[{ on := 1, ground := Ground.data }, { on := 2, ground := Ground.data }], guard := none }) rfl (fun K7 hK7 => ?_) ?_
  · go_simp
    refine (HCl.out _ HX.out.bel).mono ?_
    rintro e V ⟨vs, rfl, ho, hb⟩
    have HO := Lib.hid (ho.mono (show w.heap.size + 1 + 1 ≤ _ from HX.out.two.lt))
    obtain ⟨xs, ys, rfl⟩ := ho.slice
    have HX := Lib.hid (HX.out.keep hb)
    have HP := Lib.hid (HP.out.keep hb)
    clear hb ho
    obtain ⟨W, rfl⟩ : ∃ U, U = V := ⟨_, rfl⟩
    try dsimp only
    refine hK7.out _ _ (⟨HX.out.one.cells, HP.out.cells⟩) (fun hHeld => ?_)
    clear hK7 K7
    try simp only [Act.put, List.setIfInBounds_toArray, List.set_cons_zero, List.set_cons_succ]
    refine wpAnyH_ready (rs := [4]) (by kernel_rfl) (by simp) ?_
    refine AllReadyH.cons (o := { dst := none, op := Op.store 37 (Operand.tmp 6) (Operand.tmp 20), type := 0, pos := "ref.go:81", after := #[{ on := 0, ground := Ground.data }, { on := 3, ground := Ground.chain }, { on := 0, ground := Ground.phase }, { on := 1, ground := Ground.textOnly Departure.lateStores }, { on := 2, ground := Ground.textOnly Departure.lateStores }, { on := 3, ground := Ground.textOnly Departure.lateStoresUnsure }], guard := none }) rfl (fun K7 hK7 => ?_) ?_
    · refine wp_store_mid 37 _ _ rfl (w.heap.size + 1) 0 #[.int .i64 mon, .int .i64 (L : Int), .bool has, .int .i64 ar, .int .i64 am, .string val] rfl rfl HX.out.two.there sizeProm (prom_one _ _ _ _ _ _) ?_
      have HR := Lib.hid (HX.out.two.put mon (L : Int) has ar am val)
      have HO := Lib.hid (Own.farC (N := w.heap.size + 1) (by omega) [.int .i64 mon, .int .i64 (L : Int), .bool has, .int .i64 ar, .int .i64 am, .string val] 0 HO.out)
      have HBe := Lib.hid (Below.setCells HX.out.bel (b := w.heap.size + 1) (by omega) 0 [.int .i64 mon, .int .i64 (L : Int), .bool has, .int .i64 ar, .int .i64 am, .string val])
      have HOne : Hid (ABox (W.setCells (w.heap.size + 1) 0 [.int .i64 mon, .int .i64 (L : Int), .bool has, .int .i64 ar, .int .i64 am, .string val]) w.heap.size pr pm has ar am val (.slice x L y)) := Lib.hid ((heap_setCells_other (w.heap.size + 1) _ 0 W _ (by omega)).trans HX.out.one)
      have HP := Lib.hid (HP.out.far (by have := HMl.out; omega) 0 [.int .i64 mon, .int .i64 (L : Int), .bool has, .int .i64 ar, .int .i64 am, .string val] (N := w.heap.size + 1))
      generalize (W.setCells (w.heap.size + 1) 0 (#[.int .i64 mon, .int .i64 (L : Int), .bool has, .int .i64 ar, .int .i64 am, .string val] : Array Value).toList) = W at HR HO HBe HOne HP ⊢
      try dsimp only
      refine hK7.out _ _ (⟨HOne.out.cells, HP.out.cells⟩) (fun hHeld => ?_)
      clear hK7 K7
      try simp only [Act.put, List.setIfInBounds_toArray, List.set_cons_zero, List.set_cons_succ]
      refine wpAnyH_take (i := 5) (oi := { dst := some 7, op := Op.assign (Operand.tmp 23), type := 24, pos := "ref.go:81", after := #[{ on := 3, ground := Ground.data }, { on := 4, ground := Ground.chain }, { on := 0, ground := Ground.phase }, { on := 1, ground := Ground.phase }, { on := 2, ground := Ground.phase }, { on := 3, ground := Ground.phase }, { on := 4, ground := Ground.phase }], guard := none }) (v := ?_) rfl (by kernel_rfl) (by kernel_rfl) (by kernel_rfl) (fun _ _ _ h => h) (Or.inl ⟨by rfl, ?_⟩) hHeld ?_
      rotate_left 1
      · intro W hSw
        (try dsimp only at hSw)
        go_simp
        try with_reducible rfl
      try simp only [Act.put, List.setIfInBounds_toArray, List.set_cons_zero, List.set_cons_succ]
      refine wpAnyH_done (by kernel_rfl) ?_ _
      clear hHeld
      go_wp2
      refine bodyPost_ret (ret_cell_tmp rfl rfl HR.out.range Try.underlying37 rfl sizeProm) rfl ?_
      exact ⟨_, rfl, HO.out.mono (by omega), HBe.out⟩
    exact AllReadyH.nil
  exact AllReadyH.nil
  --R2E
end Go.Proofs.Ytmdipcemhaomhaa.crush
