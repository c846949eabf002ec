/- How many choices differ, by the program. -/
import Derived.Test.YtnacobhhgeljoaaRows
import Derived.Test.YtnacobhhgeljoaaCrushMoved
namespace Go.Proofs.Ytnacobhhgeljoaa.crush
open Go.RowKit
open Go.Proofs.Ytnacobhhgeljoaa.kit Go.Proofs.Ytnacobhhgeljoaa.own Go.Proofs.Ytnacobhhgeljoaa.iter Go.Proofs.Ytnacobhhgeljoaa.heldin
set_option linter.unusedVariables false
attribute [local go_sem] Oper.semAt_some

/-- The state of 'Moved' ahead of a round. -/
structure MBx (N : Nat) (w : World) (v1 v2 : Value) (x : Nat) (n : Int) (lp : Obj) (c : Nat) (W : World) : Prop where
  bel : Below N w W
  l1 : W.heap[N]? = some (Obj.cells #[v1] 22 (0, 0))
  l2 : W.heap[N + 1]? = some (Obj.cells #[v2] 22 (0, 0))
  cnt : W.heap[N + 2]? = some (Obj.cells #[.int .i64 (c : Int)] 3 (0, 0))
  fr : W.heap[N + 3]? = some (Obj.cells #[.int .u32 x] 23 (0, 0))
  nn : W.heap[N + 4]? = some (Obj.cells #[.int .i64 n] 3 (0, 0))
  df : W.heap[N + 5]? = some (.deferred (some []))
  lp : W.heap[N + 5 + 1]? = some lp
section
variable {N : Nat} {w : World} {v1 v2 : Value} {x : Nat} {n : Int} {lp : Obj} {c : Nat} {W W' : World}
theorem MBx.keep (h : MBx N w v1 v2 x n lp c W) (hb : Below W.heap.size W W') : MBx N w v1 v2 x n lp c W' := by
  have hl := (Array.getElem?_eq_some_iff.1 h.lp).1
  exact ⟨h.bel.trans (hb.mono (by omega)), (hb.block _ (by omega)).trans h.l1, (hb.block _ (by omega)).trans h.l2, (hb.block _ (by omega)).trans h.cnt, (hb.block _ (by omega)).trans h.fr, (hb.block _ (by omega)).trans h.nn, (hb.block _ (by omega)).trans h.df, (hb.block _ (by omega)).trans h.lp⟩
theorem MBx.putLp (h : MBx N w v1 v2 x n lp c W) (o : Obj) : MBx N w v1 v2 x n o c (W.putObj (N + 5 + 1) o) :=
  ⟨below_putObj' h.bel _ _ (by omega), (World.putObj_heap_other (by omega)).trans h.l1, (World.putObj_heap_other (by omega)).trans h.l2, (World.putObj_heap_other (by omega)).trans h.cnt, (World.putObj_heap_other (by omega)).trans h.fr, (World.putObj_heap_other (by omega)).trans h.nn, (World.putObj_heap_other (by omega)).trans h.df, World.putObj_heap_same (Array.getElem?_eq_some_iff.1 h.lp).1⟩
theorem MBx.up (h : MBx N w v1 v2 x n lp c W) : MBx N w v1 v2 x n lp (c + 1) (W.setCell ⟨N + 2, 0, none⟩ (.int .i64 ((c : Int) + 1))) := by
  refine ⟨h.bel.setCell (p := ⟨N + 2, 0, none⟩) (by show N ≤ N + 2; omega) _, (heap_setCell_other _ _ _ _ (by show N ≠ N + 2; omega)).trans h.l1, (heap_setCell_other _ _ _ _ (by show N + 1 ≠ N + 2; omega)).trans h.l2, ?_, (heap_setCell_other _ _ _ _ (by show N + 3 ≠ N + 2; omega)).trans h.fr, (heap_setCell_other _ _ _ _ (by show N + 4 ≠ N + 2; omega)).trans h.nn, (heap_setCell_other _ _ _ _ (by show N + 5 ≠ N + 2; omega)).trans h.df, (heap_setCell_other _ _ _ _ (by show N + 5 + 1 ≠ N + 2; omega)).trans h.lp⟩
  have := heap_setCell_same W (N + 2) 0 _ _ (.int .i64 ((c : Int) + 1)) h.cnt
  simpa using this
end

set_option maxHeartbeats 16000000 in
set_option maxRecDepth 100000 in
theorem Moved_any (v1 v2 : Value) (xs ys : List It) (x : Nat) (n : Int) (hx : x < 4294967296) (hlx : xs.length ≤ 65536) (hly : ys.length ≤ 65536) (w : World) (h1 : Sl wc 2 w v1 xs) (h2 : Sl wc 2 w v2 ys) :
    Calls Try.prog 19 #[v1, v2, .int .u32 x, .int .i64 n] w fun e w' => e = .returned (.int .i64 (movF xs ys x (askN n) : Nat)) ∧ Below w.heap.size w w' := by
  obtain ⟨a1, cp1, rfl⟩ := h1.slice
  obtain ⟨a2, cp2, rfl⟩ := h2.slice
  have HS1 := Lib.hid h1; have HS2 := Lib.hid h2
  obtain ⟨L1, hL1⟩ : ∃ L, xs.length = L := ⟨_, rfl⟩
  obtain ⟨L2, hL2⟩ : ∃ L, ys.length = L := ⟨_, rfl⟩
  have HL1 := Lib.hid hL1; have HL2 := Lib.hid hL2
  rw [hL1] at HS1 hlx ⊢
  rw [hL2] at HS2 hly ⊢
  have HLx := Lib.hid hlx; have HLy := Lib.hid hly; have HXl := Lib.hid hx
  clear h1 h2 hL1 hL2 hlx hly hx
  refine (callsIn_wide (n := 0)).1 ?_
  refine callsIn_of_wp_marks Try.func19 rfl trivial ?_ rfl
  simp only [Try.ntmps19, List.size_toArray, List.length_cons, List.length_nil, Nat.reduceAdd, Nat.reduceSub, Array.replicate_succ, Array.replicate_zero, List.push_toArray, List.append_toArray, List.nil_append, List.cons_append]
  gi_wp2_with (refine ⟨trivial, rfl, ?_⟩; gi_at_call 29; refine (callsIn_wide.2 (asked_any x n _)).mono ?_; rintro e w' ⟨rfl, rfl⟩)
  obtain ⟨W0, hW0⟩ : ∃ W0, (((((w.alloc (.cells #[.slice a1 L1 cp1] 22)).alloc (.cells #[.slice a2 L2 cp2] 22)).alloc (.cells #[.int .i64 0] 3)).alloc (.cells #[.int .u32 x] 23)).alloc (.cells #[.int .i64 n] 3)) = W0 := ⟨_, rfl⟩
  have hs0 : W0.heap.size = w.heap.size + 5 := by rw [← hW0]; simp
  have hst : ∀ lp W, Below W0.heap.size W0 W → W.heap[w.heap.size + 5]? = some (.deferred (some [])) → W.heap[w.heap.size + 5 + 1]? = some lp → MBx w.heap.size w (.slice a1 L1 cp1) (.slice a2 L2 cp2) x n lp (movF xs ys x 0) W := by
    intro lp W hb hd hl
    have hbw : Below w.heap.size w W0 := by
      rw [← hW0]
      exact ((((Below.refl _ _).alloc (Nat.le_refl _) _).alloc (by simp) _).alloc (by simp; omega) _).alloc (by simp; omega) _ |>.alloc (by simp; omega) _
    refine ⟨hbw.trans (hb.mono (by omega)), (hb.block _ (by omega)).trans ?_, (hb.block _ (by omega)).trans ?_, (hb.block _ (by omega)).trans ?_, (hb.block _ (by omega)).trans ?_, (hb.block _ (by omega)).trans ?_, hd, hl⟩
    all_goals
      rw [← hW0]
      simp only [alloc_heap, Array.getElem?_push, Array.size_push]
      repeat (first | rw [if_pos trivial] | rw [if_pos (by omega)] | rw [if_neg (by omega)])
    all_goals rfl
  rw [hW0]
  have HSt := Lib.hid hst
  obtain ⟨N, hN⟩ : ∃ N, w.heap.size = N := ⟨_, rfl⟩
  have HN := Lib.hid hN
  rw [hN] at HSt hs0 ⊢
  simp only [Nat.add_assoc, Nat.reduceAdd]
  clear hst hN hW0
  obtain ⟨m, hm⟩ : ∃ m, askN n = m := ⟨_, rfl⟩
  have HMn := Lib.hid hm
  have HMle : Hid (m ≤ 100000) := Lib.hid (by unfold askN at hm; omega)
  clear hm
  refine range_stmt (n := 0) (gf := 41) (lb := #[.pointer (some ⟨N + 4, 0, none⟩), .pointer (some ⟨N + 3, 0, none⟩)])
    (I := fun W => ∃ lp, MBx N w (.slice a1 L1 cp1) (.slice a2 L2 cp2) x n lp (movF xs ys x m) W) (X := fun _ => False)
    rfl (enters_of Try.func41 (by kernel_rfl) rfl) ?hit ?hdone ?hstop
  case hit =>
    intro fn rec hrec
    simp only [hs0] at hrec ⊢
    have hit1 := asked1_any (N + 5 + 1) (N + 4) (N + 3) x HXl.out n (I := fun k W => MBx N w (.slice a1 L1 cp1) (.slice a2 L2 cp2) x n (.loop (rec .ready none)) (movF xs ys x k) W)
    rw [HMn.out] at hit1
    refine (hit1 ?cells ?yield _ ?start).mono ?post
    case cells => exact fun i W h => ⟨box_cell h.nn, box_cell h.fr⟩
    case start =>
      have b1 : Below W0.heap.size W0 ((W0.alloc (.deferred (some []))).alloc (.loop (rec .ready none))) := ((Below.refl _ W0).alloc (Nat.le_refl _) _).alloc (by simp) _
      refine HSt.out _ _ b1 ?_ ?_
      · simp only [alloc_heap, Array.getElem?_push, Array.size_push, hs0]; simp
      · have := World.alloc_heap_new (W0.alloc (.deferred (some []))) (.loop (rec .ready none))
        rw [World.size_alloc, hs0] at this
        exact this
    case post =>
      rintro e W ⟨hv, h1⟩
      exact ⟨hv, .inl ⟨⟨_, h1⟩, h1.lp, h1.df⟩⟩
    case yield =>
      rintro i W hi hsb
      refine yield_round hrec (Rt := fun W' => MBx N w (.slice a1 L1 cp1) (.slice a2 L2 cp2) x n (.loop (rec .ready none)) (movF xs ys x (i + 1)) W') (Rf := fun _ => False) ⟨hsb.lp, hsb.df⟩ rfl ?_ |>.mono ?_
      · have HG := Lib.hid hsb
        clear hit1 hrec hsb hs0 HSt
        obtain ⟨z, hz⟩ : ∃ z, (x + i) % 4294967296 = z := ⟨_, rfl⟩
        have hzl : z < 4294967296 := by omega
        have hsuc : movF xs ys x (i + 1) = movF xs ys x i + if unl xs ys (pick (keys z 0 xs)) (pick (keys z 0 ys)) then 1 else 0 := by rw [← unlike_unl, ← hz]; rfl
        have hle := movF_le xs ys x i
        have hil : i ≤ 100000 := by have := HMle.out; omega
        rw [hz]
        clear hz
        gi_wp2
        refine ⟨HG.out.lp, ?_⟩
        have hg3 := HG.out.putLp (.loop (rec .busy none))
        generalize W.putObj (N + 5 + 1) (.loop (rec .busy none)) = W3 at hg3 ⊢
        have HG3 := Lib.hid hg3
        have HSl : Hid (∀ u, Below N w u → Sl wc 2 u (.slice a1 L1 cp1) xs ∧ Sl wc 2 u (.slice a2 L2 cp2) ys) := Lib.hid (fun u hu => ⟨HS1.out.keep (by rw [HN.out]; exact hu), HS2.out.keep (by rw [HN.out]; exact hu)⟩)
        have HC1 := Lib.hid (fun W => Choose_any (.slice a1 L1 cp1) xs z 0 hzl (by have := HLx.out; have := HL1.out; omega) W)
        have HC2 := Lib.hid (fun W => Choose_any (.slice a2 L2 cp2) ys z 0 hzl (by have := HLy.out; have := HL2.out; omega) W)
        have hp1 := fun p (h : pick (keys z 0 xs) = some p) => pick_lt h
        have hp2 := fun p (h : pick (keys z 0 ys) = some p) => pick_lt h
        rw [keys_len, HL1.out] at hp1
        rw [keys_len, HL2.out] at hp2
        unfold chosen at HC1 HC2
        generalize pick (keys z 0 xs) = o1 at HC1 hp1 hsuc
        generalize pick (keys z 0 ys) = o2 at HC2 hp2 hsuc
        generalize movF xs ys x (i + 1) = mc1 at hsuc ⊢
        generalize movF xs ys x i = mc at HG3 hsuc hle
        have HSuc := Lib.hid hsuc
        clear hg3 hzl HG HMn HMle hsuc
        have k0 := box_cell HG3.out.l1
        have mixed : Try.prog.follows .mixedOrders = true := by kernel_rfl
        refine wpIn_mono (Q := fun e _ W' => e = .normal ∧ Hid (MBx N w (.slice a1 L1 cp1) (.slice a2 L2 cp2) x n (.loop (rec .busy none)) mc1 W')) ?_ ?_
        · gi_upto_region 5 with (refine ⟨trivial, rfl, ?_⟩; gi_at_call 10; refine (callsIn_wide.2 (HC1.out _ (HSl.out _ HG3.out.bel).1)).mono ?_; rintro e w' ⟨rfl, hb⟩; have HG4 := Lib.hid (HG3.out.keep hb); clear hb k0)
          have k1 := box_cell HG4.out.l2
          gi_upto_region 6 with (refine ⟨trivial, rfl, ?_⟩; gi_at_call 10; refine (callsIn_wide.2 (HC2.out _ (HSl.out _ HG4.out.bel).2)).mono ?_; rintro e w' ⟨rfl, hb⟩; have HG5 := Lib.hid (HG4.out.keep hb); clear hb k1)
          have HGd := Lib.hid (HG5.out.keep (below_drew (Below.refl _ _)))
          have kc := box_cell HGd.out.cnt
          have kf := box_frozen HGd.out.cnt
          have HUp := Lib.hid HGd.out.up
          have hmc : mc ≤ 100000 := by omega
          clear HG4 HC1 HC2
          cases o1 with
          | none =>
            cases o2 with
            | none =>
              simp only [Option.getD_none, Option.isSome_none]
              --R6NN
              refine wpIn_calm ?_
              refine wpIn_region_held (S := fun _ => True) (by kernel_rfl) (by kernel_rfl) (calm_in _) (trivial) (fun hHeld => ?_)
              refine wpAnyH_take (i := 0) (oi := { dst := some 31, op := Op.move (Operand.tmp 12), type := 4, pos := "crush.go:55", after := #[], guard := none }) (v := ?_) rfl (by kernel_rfl) (by kernel_rfl) (by kernel_rfl) (fun _ _ _ h => h) (Or.inl ⟨by rfl, ?_⟩) hHeld ?_
              rotate_left 1
              · intro W hSw
                (try dsimp only at hSw)
                go_simp
                try with_reducible rfl
              try simp only [Act.put, List.setIfInBounds_toArray, List.set_cons_zero, List.set_cons_succ]
              refine wpAnyH_take (i := 1) (oi := { dst := some 32, op := Op.move (Operand.tmp 14), type := 4, pos := "crush.go:55", after := #[], guard := none }) (v := ?_) rfl (by kernel_rfl) (by kernel_rfl) (by kernel_rfl) (fun _ _ _ h => h) (Or.inl ⟨by rfl, ?_⟩) hHeld ?_
              rotate_left 1
              · intro W hSw
                (try dsimp only at hSw)
                go_simp
                try with_reducible rfl
              try simp only [Act.put, List.setIfInBounds_toArray, List.set_cons_zero, List.set_cons_succ]
              refine wpAnyH_take (i := 2) (oi := { dst := some 33, op := Op.binOp BinOp.neq 4 (Operand.tmp 31) (Operand.tmp 32) 4, type := 4, pos := "crush.go:55", after := #[{ on := 0, ground := Ground.data }, { on := 1, ground := Ground.data }], guard := none }) (v := ?_) rfl (by kernel_rfl) (by kernel_rfl) (by kernel_rfl) (fun _ _ _ h => h) (Or.inl ⟨by rfl, ?_⟩) hHeld ?_
              rotate_left 1
              · intro W hSw
                (try dsimp only at hSw)
                go_simp
                try with_reducible rfl
              try simp only [Act.put, List.setIfInBounds_toArray, List.set_cons_zero, List.set_cons_succ]
              refine wpAnyH_take (i := 3) (oi := { dst := some 34, op := Op.move (Operand.tmp 33), type := 4, pos := "crush.go:55", after := #[{ on := 2, ground := Ground.data }], guard := none }) (v := ?_) rfl (by kernel_rfl) (by kernel_rfl) (by kernel_rfl) (fun _ _ _ h => h) (Or.inl ⟨by rfl, ?_⟩) hHeld ?_
              rotate_left 1
              · intro W hSw
                (try dsimp only at hSw)
                go_simp
                try with_reducible rfl
              try simp only [Act.put, List.setIfInBounds_toArray, List.set_cons_zero, List.set_cons_succ]
              refine wpAnyH_take (i := 4) (oi := { dst := some 35, op := Op.move (Operand.tmp 12), type := 4, pos := "crush.go:55", after := #[{ on := 3, ground := Ground.guard }], guard := some (3, false) }) (v := ?_) rfl (by kernel_rfl) (by kernel_rfl) (by kernel_rfl) (fun _ _ _ h => h) (Or.inl ⟨by rfl, ?_⟩) hHeld ?_
              rotate_left 1
              · intro W hSw
                (try dsimp only at hSw)
                go_simp
                try with_reducible rfl
              try simp only [Act.put, List.setIfInBounds_toArray, List.set_cons_zero, List.set_cons_succ]
              refine wpAnyH_take (i := 5) (oi := { dst := some 36, op := Op.move (Operand.tmp 35), type := 4, pos := "crush.go:55", after := #[{ on := 4, ground := Ground.data }, { on := 3, ground := Ground.chain }, { on := 3, ground := Ground.guard }], guard := some (3, false) }) (v := ?_) rfl (by kernel_rfl) (by kernel_rfl) (by kernel_rfl) (fun _ _ _ h => h) (Or.inl ⟨by rfl, ?_⟩) hHeld ?_
              rotate_left 1
              · intro W hSw
                (try dsimp only at hSw)
                go_simp
                try with_reducible rfl
              try simp only [Act.put, List.setIfInBounds_toArray, List.set_cons_zero, List.set_cons_succ]
              refine wpAnyH_take (i := 6) (oi := { dst := some 37, op := Op.load 22 (Operand.tmp 4), type := 22, pos := "crush.go:55", after := #[{ on := 5, ground := Ground.guard }], guard := some (5, true) }) (v := undef) rfl (by kernel_rfl) (by kernel_rfl) (by kernel_rfl) (fun _ _ _ h => h) (Or.inr ⟨by rfl, rfl⟩) hHeld ?_
              try simp only [Act.put, List.setIfInBounds_toArray, List.set_cons_zero, List.set_cons_succ]
              refine wpAnyH_take (i := 7) (oi := { dst := some 38, op := Op.move (Operand.tmp 11), type := 3, pos := "crush.go:55", after := #[{ on := 5, ground := Ground.guard }], guard := some (5, true) }) (v := undef) rfl (by kernel_rfl) (by kernel_rfl) (by kernel_rfl) (fun _ _ _ h => h) (Or.inr ⟨by rfl, rfl⟩) hHeld ?_
              try simp only [Act.put, List.setIfInBounds_toArray, List.set_cons_zero, List.set_cons_succ]
              refine wpAnyH_take (i := 8) (oi := { dst := some 39, op := Op.indexAddr 22 (Operand.tmp 37) (Operand.tmp 38), type := 0, pos := "crush.go:55", after := #[{ on := 6, ground := Ground.data }, { on := 7, ground := Ground.data }, { on := 5, ground := Ground.guard }], guard := some (5, true) }) (v := undef) rfl (by kernel_rfl) (by kernel_rfl) (by kernel_rfl) (fun _ _ _ h => h) (Or.inr ⟨by rfl, rfl⟩) hHeld ?_
              try simp only [Act.put, List.setIfInBounds_toArray, List.set_cons_zero, List.set_cons_succ]
              refine wpAnyH_take (i := 9) (oi := { dst := some 40, op := Op.fieldAddr 33 (Operand.tmp 39) 0, type := 0, pos := "crush.go:55", after := #[{ on := 8, ground := Ground.data }, { on := 5, ground := Ground.guard }], guard := some (5, true) }) (v := undef) rfl (by kernel_rfl) (by kernel_rfl) (by kernel_rfl) (fun _ _ _ h => h) (Or.inr ⟨by rfl, rfl⟩) hHeld ?_
              try simp only [Act.put, List.setIfInBounds_toArray, List.set_cons_zero, List.set_cons_succ]
              refine wpAnyH_take (i := 10) (oi := { dst := some 41, op := Op.load 3 (Operand.tmp 40), type := 3, pos := "crush.go:55", after := #[{ on := 9, ground := Ground.data }, { on := 5, ground := Ground.guard }], guard := some (5, true) }) (v := undef) rfl (by kernel_rfl) (by kernel_rfl) (by kernel_rfl) (fun _ _ _ h => h) (Or.inr ⟨by rfl, rfl⟩) hHeld ?_
              try simp only [Act.put, List.setIfInBounds_toArray, List.set_cons_zero, List.set_cons_succ]
              refine wpAnyH_take (i := 11) (oi := { dst := some 42, op := Op.load 22 (Operand.tmp 5), type := 22, pos := "crush.go:55", after := #[{ on := 5, ground := Ground.guard }], guard := some (5, true) }) (v := undef) rfl (by kernel_rfl) (by kernel_rfl) (by kernel_rfl) (fun _ _ _ h => h) (Or.inr ⟨by rfl, rfl⟩) hHeld ?_
              try simp only [Act.put, List.setIfInBounds_toArray, List.set_cons_zero, List.set_cons_succ]
              refine wpAnyH_take (i := 12) (oi := { dst := some 43, op := Op.move (Operand.tmp 13), type := 3, pos := "crush.go:55", after := #[{ on := 5, ground := Ground.guard }], guard := some (5, true) }) (v := undef) rfl (by kernel_rfl) (by kernel_rfl) (by kernel_rfl) (fun _ _ _ h => h) (Or.inr ⟨by rfl, rfl⟩) hHeld ?_
              try simp only [Act.put, List.setIfInBounds_toArray, List.set_cons_zero, List.set_cons_succ]
              refine wpAnyH_take (i := 13) (oi := { dst := some 44, op := Op.indexAddr 22 (Operand.tmp 42) (Operand.tmp 43), type := 0, pos := "crush.go:55", after := #[{ on := 11, ground := Ground.data }, { on := 12, ground := Ground.data }, { on := 5, ground := Ground.guard }], guard := some (5, true) }) (v := undef) rfl (by kernel_rfl) (by kernel_rfl) (by kernel_rfl) (fun _ _ _ h => h) (Or.inr ⟨by rfl, rfl⟩) hHeld ?_
              try simp only [Act.put, List.setIfInBounds_toArray, List.set_cons_zero, List.set_cons_succ]
              refine wpAnyH_take (i := 14) (oi := { dst := some 45, op := Op.fieldAddr 33 (Operand.tmp 44) 0, type := 0, pos := "crush.go:55", after := #[{ on := 13, ground := Ground.data }, { on := 5, ground := Ground.guard }], guard := some (5, true) }) (v := undef) rfl (by kernel_rfl) (by kernel_rfl) (by kernel_rfl) (fun _ _ _ h => h) (Or.inr ⟨by rfl, rfl⟩) hHeld ?_
              try simp only [Act.put, List.setIfInBounds_toArray, List.set_cons_zero, List.set_cons_succ]
              refine wpAnyH_take (i := 15) (oi := { dst := some 46, op := Op.load 3 (Operand.tmp 45), type := 3, pos := "crush.go:55", after := #[{ on := 14, ground := Ground.data }, { on := 5, ground := Ground.guard }], guard := some (5, true) }) (v := undef) rfl (by kernel_rfl) (by kernel_rfl) (by kernel_rfl) (fun _ _ _ h => h) (Or.inr ⟨by rfl, rfl⟩) hHeld ?_
              try simp only [Act.put, List.setIfInBounds_toArray, List.set_cons_zero, List.set_cons_succ]
              refine wpAnyH_take (i := 16) (oi := { dst := some 47, op := Op.binOp BinOp.neq 3 (Operand.tmp 41) (Operand.tmp 46) 3, type := 4, pos := "crush.go:55", after := #[{ on := 10, ground := Ground.data }, { on := 15, ground := Ground.data }, { on := 5, ground := Ground.guard }], guard := some (5, true) }) (v := undef) rfl (by kernel_rfl) (by kernel_rfl) (by kernel_rfl) (fun _ _ _ h => h) (Or.inr ⟨by rfl, rfl⟩) hHeld ?_
              try simp only [Act.put, List.setIfInBounds_toArray, List.set_cons_zero, List.set_cons_succ]
              refine wpAnyH_take (i := 17) (oi := { dst := some 48, op := Op.pick (Operand.tmp 36) (Operand.tmp 47) (Operand.const (Value.bool false)), type := 4, pos := "crush.go:55", after := #[{ on := 5, ground := Ground.data }, { on := 16, ground := Ground.data }, { on := 3, ground := Ground.guard }], guard := some (3, false) }) (v := ?_) rfl (by kernel_rfl) (by kernel_rfl) (by kernel_rfl) (fun _ _ _ h => h) (Or.inl ⟨by rfl, ?_⟩) hHeld ?_
              rotate_left 1
              · intro W hSw
                (try dsimp only at hSw)
                go_simp
                try with_reducible rfl
              try simp only [Act.put, List.setIfInBounds_toArray, List.set_cons_zero, List.set_cons_succ]
              refine wpAnyH_take (i := 18) (oi := { dst := some 49, op := Op.pick (Operand.tmp 34) (Operand.const (Value.bool true)) (Operand.tmp 48), type := 4, pos := "crush.go:55", after := #[{ on := 3, ground := Ground.data }, { on := 17, ground := Ground.data }], guard := none }) (v := ?_) rfl (by kernel_rfl) (by kernel_rfl) (by kernel_rfl) (fun _ _ _ h => h) (Or.inl ⟨by rfl, ?_⟩) hHeld ?_
              rotate_left 1
              · intro W hSw
                (try dsimp only at hSw)
                go_simp
                try with_reducible rfl
              try simp only [Act.put, List.setIfInBounds_toArray, List.set_cons_zero, List.set_cons_succ]
              refine wpAnyH_done (by kernel_rfl) ?_ _
              refine calm_normal ?_
              have hmc1 : mc1 = mc := by have h := HSuc.out; simpa [unl] using h
              subst hmc1
              clear hHeld kc kf
              gi_wp2
              --R6NNE
            | some q =>
              simp only [Option.getD_none, Option.isSome_none, Option.getD_some, Option.isSome_some]
              --R6NS
              refine wpIn_calm ?_
              refine wpIn_region_held (S := fun _ => True) (by kernel_rfl) (by kernel_rfl) (calm_in _) (trivial) (fun hHeld => ?_)
              refine wpAnyH_take (i := 0) (oi := { dst := some 31, op := Op.move (Operand.tmp 12), type := 4, pos := "crush.go:55", after := #[], guard := none }) (v := ?_) rfl (by kernel_rfl) (by kernel_rfl) (by kernel_rfl) (fun _ _ _ h => h) (Or.inl ⟨by rfl, ?_⟩) hHeld ?_
              rotate_left 1
              · intro W hSw
                (try dsimp only at hSw)
                go_simp
                try with_reducible rfl
              try simp only [Act.put, List.setIfInBounds_toArray, List.set_cons_zero, List.set_cons_succ]
              refine wpAnyH_take (i := 1) (oi := { dst := some 32, op := Op.move (Operand.tmp 14), type := 4, pos := "crush.go:55", after := #[], guard := none }) (v := ?_) rfl (by kernel_rfl) (by kernel_rfl) (by kernel_rfl) (fun _ _ _ h => h) (Or.inl ⟨by rfl, ?_⟩) hHeld ?_
              rotate_left 1
              · intro W hSw
                (try dsimp only at hSw)
                go_simp
                try with_reducible rfl
              try simp only [Act.put, List.setIfInBounds_toArray, List.set_cons_zero, List.set_cons_succ]
              refine wpAnyH_take (i := 2) (oi := { dst := some 33, op := Op.binOp BinOp.neq 4 (Operand.tmp 31) (Operand.tmp 32) 4, type := 4, pos := "crush.go:55", after := #[{ on := 0, ground := Ground.data }, { on := 1, ground := Ground.data }], guard := none }) (v := ?_) rfl (by kernel_rfl) (by kernel_rfl) (by kernel_rfl) (fun _ _ _ h => h) (Or.inl ⟨by rfl, ?_⟩) hHeld ?_
              rotate_left 1
              · intro W hSw
                (try dsimp only at hSw)
                go_simp
                try with_reducible rfl
              try simp only [Act.put, List.setIfInBounds_toArray, List.set_cons_zero, List.set_cons_succ]
              refine wpAnyH_take (i := 3) (oi := { dst := some 34, op := Op.move (Operand.tmp 33), type := 4, pos := "crush.go:55", after := #[{ on := 2, ground := Ground.data }], guard := none }) (v := ?_) rfl (by kernel_rfl) (by kernel_rfl) (by kernel_rfl) (fun _ _ _ h => h) (Or.inl ⟨by rfl, ?_⟩) hHeld ?_
              rotate_left 1
              · intro W hSw
                (try dsimp only at hSw)
                go_simp
                try with_reducible rfl
              try simp only [Act.put, List.setIfInBounds_toArray, List.set_cons_zero, List.set_cons_succ]
              refine wpAnyH_take (i := 4) (oi := { dst := some 35, op := Op.move (Operand.tmp 12), type := 4, pos := "crush.go:55", after := #[{ on := 3, ground := Ground.guard }], guard := some (3, false) }) (v := undef) rfl (by kernel_rfl) (by kernel_rfl) (by kernel_rfl) (fun _ _ _ h => h) (Or.inr ⟨by rfl, rfl⟩) hHeld ?_
              try simp only [Act.put, List.setIfInBounds_toArray, List.set_cons_zero, List.set_cons_succ]
              refine wpAnyH_take (i := 5) (oi := { dst := some 36, op := Op.move (Operand.tmp 35), type := 4, pos := "crush.go:55", after := #[{ on := 4, ground := Ground.data }, { on := 3, ground := Ground.chain }, { on := 3, ground := Ground.guard }], guard := some (3, false) }) (v := undef) rfl (by kernel_rfl) (by kernel_rfl) (by kernel_rfl) (fun _ _ _ h => h) (Or.inr ⟨by rfl, rfl⟩) hHeld ?_
              try simp only [Act.put, List.setIfInBounds_toArray, List.set_cons_zero, List.set_cons_succ]
              refine wpAnyH_take (i := 6) (oi := { dst := some 37, op := Op.load 22 (Operand.tmp 4), type := 22, pos := "crush.go:55", after := #[{ on := 5, ground := Ground.guard }], guard := some (5, true) }) (v := undef) rfl (by kernel_rfl) (by kernel_rfl) (by kernel_rfl) (fun _ _ _ h => h) (Or.inr ⟨by rfl, rfl⟩) hHeld ?_
              try simp only [Act.put, List.setIfInBounds_toArray, List.set_cons_zero, List.set_cons_succ]
              refine wpAnyH_take (i := 7) (oi := { dst := some 38, op := Op.move (Operand.tmp 11), type := 3, pos := "crush.go:55", after := #[{ on := 5, ground := Ground.guard }], guard := some (5, true) }) (v := undef) rfl (by kernel_rfl) (by kernel_rfl) (by kernel_rfl) (fun _ _ _ h => h) (Or.inr ⟨by rfl, rfl⟩) hHeld ?_
              try simp only [Act.put, List.setIfInBounds_toArray, List.set_cons_zero, List.set_cons_succ]
              refine wpAnyH_take (i := 8) (oi := { dst := some 39, op := Op.indexAddr 22 (Operand.tmp 37) (Operand.tmp 38), type := 0, pos := "crush.go:55", after := #[{ on := 6, ground := Ground.data }, { on := 7, ground := Ground.data }, { on := 5, ground := Ground.guard }], guard := some (5, true) }) (v := undef) rfl (by kernel_rfl) (by kernel_rfl) (by kernel_rfl) (fun _ _ _ h => h) (Or.inr ⟨by rfl, rfl⟩) hHeld ?_
              try simp only [Act.put, List.setIfInBounds_toArray, List.set_cons_zero, List.set_cons_succ]
              refine wpAnyH_take (i := 9) (oi := { dst := some 40, op := Op.fieldAddr 33 (Operand.tmp 39) 0, type := 0, pos := "crush.go:55", after := #[{ on := 8, ground := Ground.data }, { on := 5, ground := Ground.guard }], guard := some (5, true) }) (v := undef) rfl (by kernel_rfl) (by kernel_rfl) (by kernel_rfl) (fun _ _ _ h => h) (Or.inr ⟨by rfl, rfl⟩) hHeld ?_
              try simp only [Act.put, List.setIfInBounds_toArray, List.set_cons_zero, List.set_cons_succ]
              refine wpAnyH_take (i := 10) (oi := { dst := some 41, op := Op.load 3 (Operand.tmp 40), type := 3, pos := "crush.go:55", after := #[{ on := 9, ground := Ground.data }, { on := 5, ground := Ground.guard }], guard := some (5, true) }) (v := undef) rfl (by kernel_rfl) (by kernel_rfl) (by kernel_rfl) (fun _ _ _ h => h) (Or.inr ⟨by rfl, rfl⟩) hHeld ?_
              try simp only [Act.put, List.setIfInBounds_toArray, List.set_cons_zero, List.set_cons_succ]
              refine wpAnyH_take (i := 11) (oi := { dst := some 42, op := Op.load 22 (Operand.tmp 5), type := 22, pos := "crush.go:55", after := #[{ on := 5, ground := Ground.guard }], guard := some (5, true) }) (v := undef) rfl (by kernel_rfl) (by kernel_rfl) (by kernel_rfl) (fun _ _ _ h => h) (Or.inr ⟨by rfl, rfl⟩) hHeld ?_
              try simp only [Act.put, List.setIfInBounds_toArray, List.set_cons_zero, List.set_cons_succ]
              refine wpAnyH_take (i := 12) (oi := { dst := some 43, op := Op.move (Operand.tmp 13), type := 3, pos := "crush.go:55", after := #[{ on := 5, ground := Ground.guard }], guard := some (5, true) }) (v := undef) rfl (by kernel_rfl) (by kernel_rfl) (by kernel_rfl) (fun _ _ _ h => h) (Or.inr ⟨by rfl, rfl⟩) hHeld ?_
              try simp only [Act.put, List.setIfInBounds_toArray, List.set_cons_zero, List.set_cons_succ]
              refine wpAnyH_take (i := 13) (oi := { dst := some 44, op := Op.indexAddr 22 (Operand.tmp 42) (Operand.tmp 43), type := 0, pos := "crush.go:55", after := #[{ on := 11, ground := Ground.data }, { on := 12, ground := Ground.data }, { on := 5, ground := Ground.guard }], guard := some (5, true) }) (v := undef) rfl (by kernel_rfl) (by kernel_rfl) (by kernel_rfl) (fun _ _ _ h => h) (Or.inr ⟨by rfl, rfl⟩) hHeld ?_
              try simp only [Act.put, List.setIfInBounds_toArray, List.set_cons_zero, List.set_cons_succ]
              refine wpAnyH_take (i := 14) (oi := { dst := some 45, op := Op.fieldAddr 33 (Operand.tmp 44) 0, type := 0, pos := "crush.go:55", after := #[{ on := 13, ground := Ground.data }, { on := 5, ground := Ground.guard }], guard := some (5, true) }) (v := undef) rfl (by kernel_rfl) (by kernel_rfl) (by kernel_rfl) (fun _ _ _ h => h) (Or.inr ⟨by rfl, rfl⟩) hHeld ?_
              try simp only [Act.put, List.setIfInBounds_toArray, List.set_cons_zero, List.set_cons_succ]
              refine wpAnyH_take (i := 15) (oi := { dst := some 46, op := Op.load 3 (Operand.tmp 45), type := 3, pos := "crush.go:55", after := #[{ on := 14, ground := Ground.data }, { on := 5, ground := Ground.guard }], guard := some (5, true) }) (v := undef) rfl (by kernel_rfl) (by kernel_rfl) (by kernel_rfl) (fun _ _ _ h => h) (Or.inr ⟨by rfl, rfl⟩) hHeld ?_
              try simp only [Act.put, List.setIfInBounds_toArray, List.set_cons_zero, List.set_cons_succ]
              refine wpAnyH_take (i := 16) (oi := { dst := some 47, op := Op.binOp BinOp.neq 3 (Operand.tmp 41) (Operand.tmp 46) 3, type := 4, pos := "crush.go:55", after := #[{ on := 10, ground := Ground.data }, { on := 15, ground := Ground.data }, { on := 5, ground := Ground.guard }], guard := some (5, true) }) (v := undef) rfl (by kernel_rfl) (by kernel_rfl) (by kernel_rfl) (fun _ _ _ h => h) (Or.inr ⟨by rfl, rfl⟩) hHeld ?_
              try simp only [Act.put, List.setIfInBounds_toArray, List.set_cons_zero, List.set_cons_succ]
              refine wpAnyH_take (i := 17) (oi := { dst := some 48, op := Op.pick (Operand.tmp 36) (Operand.tmp 47) (Operand.const (Value.bool false)), type := 4, pos := "crush.go:55", after := #[{ on := 5, ground := Ground.data }, { on := 16, ground := Ground.data }, { on := 3, ground := Ground.guard }], guard := some (3, false) }) (v := undef) rfl (by kernel_rfl) (by kernel_rfl) (by kernel_rfl) (fun _ _ _ h => h) (Or.inr ⟨by rfl, rfl⟩) hHeld ?_
              try simp only [Act.put, List.setIfInBounds_toArray, List.set_cons_zero, List.set_cons_succ]
              refine wpAnyH_take (i := 18) (oi := { dst := some 49, op := Op.pick (Operand.tmp 34) (Operand.const (Value.bool true)) (Operand.tmp 48), type := 4, pos := "crush.go:55", after := #[{ on := 3, ground := Ground.data }, { on := 17, ground := Ground.data }], guard := none }) (v := ?_) rfl (by kernel_rfl) (by kernel_rfl) (by kernel_rfl) (fun _ _ _ h => h) (Or.inl ⟨by rfl, ?_⟩) hHeld ?_
              rotate_left 1
              · intro W hSw
                (try dsimp only at hSw)
                go_simp
                try with_reducible rfl
              try simp only [Act.put, List.setIfInBounds_toArray, List.set_cons_zero, List.set_cons_succ]
              refine wpAnyH_done (by kernel_rfl) ?_ _
              refine calm_normal ?_
              have hmc1 : mc1 = mc + 1 := by have h := HSuc.out; simpa [unl] using h
              subst hmc1
              clear hHeld
              gi_wp2
              exact HUp
              --R6NSE
          | some p =>
            cases o2 with
            | none =>
              simp only [Option.getD_none, Option.isSome_none, Option.getD_some, Option.isSome_some]
              --R6SN
              refine wpIn_calm ?_
              refine wpIn_region_held (S := fun _ => True) (by kernel_rfl) (by kernel_rfl) (calm_in _) (trivial) (fun hHeld => ?_)
              refine wpAnyH_take (i := 0) (oi := { dst := some 31, op := Op.move (Operand.tmp 12), type := 4, pos := "crush.go:55", after := #[], guard := none }) (v := ?_) rfl (by kernel_rfl) (by kernel_rfl) (by kernel_rfl) (fun _ _ _ h => h) (Or.inl ⟨by rfl, ?_⟩) hHeld ?_
              rotate_left 1
              · intro W hSw
                (try dsimp only at hSw)
                go_simp
                try with_reducible rfl
              try simp only [Act.put, List.setIfInBounds_toArray, List.set_cons_zero, List.set_cons_succ]
              refine wpAnyH_take (i := 1) (oi := { dst := some 32, op := Op.move (Operand.tmp 14), type := 4, pos := "crush.go:55", after := #[], guard := none }) (v := ?_) rfl (by kernel_rfl) (by kernel_rfl) (by kernel_rfl) (fun _ _ _ h => h) (Or.inl ⟨by rfl, ?_⟩) hHeld ?_
              rotate_left 1
              · intro W hSw
                (try dsimp only at hSw)
                go_simp
                try with_reducible rfl
              try simp only [Act.put, List.setIfInBounds_toArray, List.set_cons_zero, List.set_cons_succ]
              refine wpAnyH_take (i := 2) (oi := { dst := some 33, op := Op.binOp BinOp.neq 4 (Operand.tmp 31) (Operand.tmp 32) 4, type := 4, pos := "crush.go:55", after := #[{ on := 0, ground := Ground.data }, { on := 1, ground := Ground.data }], guard := none }) (v := ?_) rfl (by kernel_rfl) (by kernel_rfl) (by kernel_rfl) (fun _ _ _ h => h) (Or.inl ⟨by rfl, ?_⟩) hHeld ?_
              rotate_left 1
              · intro W hSw
                (try dsimp only at hSw)
                go_simp
                try with_reducible rfl
              try simp only [Act.put, List.setIfInBounds_toArray, List.set_cons_zero, List.set_cons_succ]
              refine wpAnyH_take (i := 3) (oi := { dst := some 34, op := Op.move (Operand.tmp 33), type := 4, pos := "crush.go:55", after := #[{ on := 2, ground := Ground.data }], guard := none }) (v := ?_) rfl (by kernel_rfl) (by kernel_rfl) (by kernel_rfl) (fun _ _ _ h => h) (Or.inl ⟨by rfl, ?_⟩) hHeld ?_
              rotate_left 1
              · intro W hSw
                (try dsimp only at hSw)
                go_simp
                try with_reducible rfl
              try simp only [Act.put, List.setIfInBounds_toArray, List.set_cons_zero, List.set_cons_succ]
              refine wpAnyH_take (i := 4) (oi := { dst := some 35, op := Op.move (Operand.tmp 12), type := 4, pos := "crush.go:55", after := #[{ on := 3, ground := Ground.guard }], guard := some (3, false) }) (v := undef) rfl (by kernel_rfl) (by kernel_rfl) (by kernel_rfl) (fun _ _ _ h => h) (Or.inr ⟨by rfl, rfl⟩) hHeld ?_
              try simp only [Act.put, List.setIfInBounds_toArray, List.set_cons_zero, List.set_cons_succ]
              refine wpAnyH_take (i := 5) (oi := { dst := some 36, op := Op.move (Operand.tmp 35), type := 4, pos := "crush.go:55", after := #[{ on := 4, ground := Ground.data }, { on := 3, ground := Ground.chain }, { on := 3, ground := Ground.guard }], guard := some (3, false) }) (v := undef) rfl (by kernel_rfl) (by kernel_rfl) (by kernel_rfl) (fun _ _ _ h => h) (Or.inr ⟨by rfl, rfl⟩) hHeld ?_
              try simp only [Act.put, List.setIfInBounds_toArray, List.set_cons_zero, List.set_cons_succ]
              refine wpAnyH_take (i := 6) (oi := { dst := some 37, op := Op.load 22 (Operand.tmp 4), type := 22, pos := "crush.go:55", after := #[{ on := 5, ground := Ground.guard }], guard := some (5, true) }) (v := undef) rfl (by kernel_rfl) (by kernel_rfl) (by kernel_rfl) (fun _ _ _ h => h) (Or.inr ⟨by rfl, rfl⟩) hHeld ?_
              try simp only [Act.put, List.setIfInBounds_toArray, List.set_cons_zero, List.set_cons_succ]
              refine wpAnyH_take (i := 7) (oi := { dst := some 38, op := Op.move (Operand.tmp 11), type := 3, pos := "crush.go:55", after := #[{ on := 5, ground := Ground.guard }], guard := some (5, true) }) (v := undef) rfl (by kernel_rfl) (by kernel_rfl) (by kernel_rfl) (fun _ _ _ h => h) (Or.inr ⟨by rfl, rfl⟩) hHeld ?_
              try simp only [Act.put, List.setIfInBounds_toArray, List.set_cons_zero, List.set_cons_succ]
              refine wpAnyH_take (i := 8) (oi := { dst := some 39, op := Op.indexAddr 22 (Operand.tmp 37) (Operand.tmp 38), type := 0, pos := "crush.go:55", after := #[{ on := 6, ground := Ground.data }, { on := 7, ground := Ground.data }, { on := 5, ground := Ground.guard }], guard := some (5, true) }) (v := undef) rfl (by kernel_rfl) (by kernel_rfl) (by kernel_rfl) (fun _ _ _ h => h) (Or.inr ⟨by rfl, rfl⟩) hHeld ?_
              try simp only [Act.put, List.setIfInBounds_toArray, List.set_cons_zero, List.set_cons_succ]
              refine wpAnyH_take (i := 9) (oi := { dst := some 40, op := Op.fieldAddr 33 (Operand.tmp 39) 0, type := 0, pos := "crush.go:55", after := #[{ on := 8, ground := Ground.data }, { on := 5, ground := Ground.guard }], guard := some (5, true) }) (v := undef) rfl (by kernel_rfl) (by kernel_rfl) (by kernel_rfl) (fun _ _ _ h => h) (Or.inr ⟨by rfl, rfl⟩) hHeld ?_
              try simp only [Act.put, List.setIfInBounds_toArray, List.set_cons_zero, List.set_cons_succ]
              refine wpAnyH_take (i := 10) (oi := { dst := some 41, op := Op.load 3 (Operand.tmp 40), type := 3, pos := "crush.go:55", after := #[{ on := 9, ground := Ground.data }, { on := 5, ground := Ground.guard }], guard := some (5, true) }) (v := undef) rfl (by kernel_rfl) (by kernel_rfl) (by kernel_rfl) (fun _ _ _ h => h) (Or.inr ⟨by rfl, rfl⟩) hHeld ?_
              try simp only [Act.put, List.setIfInBounds_toArray, List.set_cons_zero, List.set_cons_succ]
              refine wpAnyH_take (i := 11) (oi := { dst := some 42, op := Op.load 22 (Operand.tmp 5), type := 22, pos := "crush.go:55", after := #[{ on := 5, ground := Ground.guard }], guard := some (5, true) }) (v := undef) rfl (by kernel_rfl) (by kernel_rfl) (by kernel_rfl) (fun _ _ _ h => h) (Or.inr ⟨by rfl, rfl⟩) hHeld ?_
              try simp only [Act.put, List.setIfInBounds_toArray, List.set_cons_zero, List.set_cons_succ]
              refine wpAnyH_take (i := 12) (oi := { dst := some 43, op := Op.move (Operand.tmp 13), type := 3, pos := "crush.go:55", after := #[{ on := 5, ground := Ground.guard }], guard := some (5, true) }) (v := undef) rfl (by kernel_rfl) (by kernel_rfl) (by kernel_rfl) (fun _ _ _ h => h) (Or.inr ⟨by rfl, rfl⟩) hHeld ?_
              try simp only [Act.put, List.setIfInBounds_toArray, List.set_cons_zero, List.set_cons_succ]
              refine wpAnyH_take (i := 13) (oi := { dst := some 44, op := Op.indexAddr 22 (Operand.tmp 42) (Operand.tmp 43), type := 0, pos := "crush.go:55", after := #[{ on := 11, ground := Ground.data }, { on := 12, ground := Ground.data }, { on := 5, ground := Ground.guard }], guard := some (5, true) }) (v := undef) rfl (by kernel_rfl) (by kernel_rfl) (by kernel_rfl) (fun _ _ _ h => h) (Or.inr ⟨by rfl, rfl⟩) hHeld ?_
              try simp only [Act.put, List.setIfInBounds_toArray, List.set_cons_zero, List.set_cons_succ]
              refine wpAnyH_take (i := 14) (oi := { dst := some 45, op := Op.fieldAddr 33 (Operand.tmp 44) 0, type := 0, pos := "crush.go:55", after := #[{ on := 13, ground := Ground.data }, { on := 5, ground := Ground.guard }], guard := some (5, true) }) (v := undef) rfl (by kernel_rfl) (by kernel_rfl) (by kernel_rfl) (fun _ _ _ h => h) (Or.inr ⟨by rfl, rfl⟩) hHeld ?_
              try simp only [Act.put, List.setIfInBounds_toArray, List.set_cons_zero, List.set_cons_succ]
              refine wpAnyH_take (i := 15) (oi := { dst := some 46, op := Op.load 3 (Operand.tmp 45), type := 3, pos := "crush.go:55", after := #[{ on := 14, ground := Ground.data }, { on := 5, ground := Ground.guard }], guard := some (5, true) }) (v := undef) rfl (by kernel_rfl) (by kernel_rfl) (by kernel_rfl) (fun _ _ _ h => h) (Or.inr ⟨by rfl, rfl⟩) hHeld ?_
              try simp only [Act.put, List.setIfInBounds_toArray, List.set_cons_zero, List.set_cons_succ]
              refine wpAnyH_take (i := 16) (oi := { dst := some 47, op := Op.binOp BinOp.neq 3 (Operand.tmp 41) (Operand.tmp 46) 3, type := 4, pos := "crush.go:55", after := #[{ on := 10, ground := Ground.data }, { on := 15, ground := Ground.data }, { on := 5, ground := Ground.guard }], guard := some (5, true) }) (v := undef) rfl (by kernel_rfl) (by kernel_rfl) (by kernel_rfl) (fun _ _ _ h => h) (Or.inr ⟨by rfl, rfl⟩) hHeld ?_
              try simp only [Act.put, List.setIfInBounds_toArray, List.set_cons_zero, List.set_cons_succ]
              refine wpAnyH_take (i := 17) (oi := { dst := some 48, op := Op.pick (Operand.tmp 36) (Operand.tmp 47) (Operand.const (Value.bool false)), type := 4, pos := "crush.go:55", after := #[{ on := 5, ground := Ground.data }, { on := 16, ground := Ground.data }, { on := 3, ground := Ground.guard }], guard := some (3, false) }) (v := undef) rfl (by kernel_rfl) (by kernel_rfl) (by kernel_rfl) (fun _ _ _ h => h) (Or.inr ⟨by rfl, rfl⟩) hHeld ?_
              try simp only [Act.put, List.setIfInBounds_toArray, List.set_cons_zero, List.set_cons_succ]
              refine wpAnyH_take (i := 18) (oi := { dst := some 49, op := Op.pick (Operand.tmp 34) (Operand.const (Value.bool true)) (Operand.tmp 48), type := 4, pos := "crush.go:55", after := #[{ on := 3, ground := Ground.data }, { on := 17, ground := Ground.data }], guard := none }) (v := ?_) rfl (by kernel_rfl) (by kernel_rfl) (by kernel_rfl) (fun _ _ _ h => h) (Or.inl ⟨by rfl, ?_⟩) hHeld ?_
              rotate_left 1
              · intro W hSw
                (try dsimp only at hSw)
                go_simp
                try with_reducible rfl
              try simp only [Act.put, List.setIfInBounds_toArray, List.set_cons_zero, List.set_cons_succ]
              refine wpAnyH_done (by kernel_rfl) ?_ _
              refine calm_normal ?_
              have hmc1 : mc1 = mc + 1 := by have h := HSuc.out; simpa [unl] using h
              subst hmc1
              clear hHeld
              gi_wp2
              exact HUp
              --R6SNE
            | some q =>
              simp only [Option.getD_some, Option.isSome_some]
              have hpL := hp1 p rfl
              have hqL := hp2 q rfl
              have g1 : (p : Int) < L1 := by omega
              have g2 : (0 : Int) ≤ p := by omega
              have g3 : (q : Int) < L2 := by omega
              have g4 : (0 : Int) ≤ q := by omega
              obtain ⟨hS6, hT6⟩ := HSl.out _ HGd.out.bel
              obtain ⟨b1, o1, rfl⟩ : ∃ b o, a1 = some ⟨b, o, none⟩ := by
                obtain ⟨_, a, c, he, -, hc⟩ := hS6
                obtain ⟨b, o, e', _⟩ := hc (by rw [HL1.out]; omega)
                cases he
                exact ⟨b, o, e'⟩
              obtain ⟨b2, o2, rfl⟩ : ∃ b o, a2 = some ⟨b, o, none⟩ := by
                obtain ⟨_, a, c, he, -, hc⟩ := hT6
                obtain ⟨b, o, e', _⟩ := hc (by rw [HL2.out]; omega)
                cases he
                exact ⟨b, o, e'⟩
              have s1 := id_at hS6 p (by rw [HL1.out]; exact hpL) _ (Below.refl _ _)
              have s2 := id_at hT6 q (by rw [HL2.out]; exact hqL) _ (Below.refl _ _)
              have s3 := box_cell HGd.out.l1
              have s4 := box_cell HGd.out.l2
              have HU : Hid (unl xs ys (some p) (some q) = ((xs.getD p (0, 0)).1 != (ys.getD q (0, 0)).1)) := Lib.hid rfl
              generalize (xs.getD p (0, 0)).1 = i1 at s1 HU
              generalize (ys.getD q (0, 0)).1 = i2 at s2 HU
              clear hS6 hT6 hpL hqL
              --R6SS
              refine wpIn_calm ?_
              refine wpIn_region_held (S := fun u => u.cell? ⟨N, 0, none⟩ = some (.slice (some ⟨b1, o1, none⟩) L1 cp1) ∧ u.cell? ⟨N + 1, 0, none⟩ = some (.slice (some ⟨b2, o2, none⟩) L2 cp2) ∧ u.cell? ⟨b1, o1 + p * 2, none⟩ = some (.int .i64 i1) ∧ u.cell? ⟨b2, o2 + q * 2, none⟩ = some (.int .i64 i2)) (by kernel_rfl) (by kernel_rfl) (calm_in _) (⟨s3, s4, s1, s2⟩) (fun hHeld => ?_)
              refine wpAnyH_take (i := 0) (oi := { dst := some 31, op := Op.move (Operand.tmp 12), type := 4, pos := "crush.go:55", after := #[], guard := none }) (v := ?_) rfl (by kernel_rfl) (by kernel_rfl) (by kernel_rfl) (fun _ _ _ h => h) (Or.inl ⟨by rfl, ?_⟩) hHeld ?_
              rotate_left 1
              · intro W hSw
                (try dsimp only at hSw)
                go_simp
                try with_reducible rfl
              try simp only [Act.put, List.setIfInBounds_toArray, List.set_cons_zero, List.set_cons_succ]
              refine wpAnyH_take (i := 1) (oi := { dst := some 32, op := Op.move (Operand.tmp 14), type := 4, pos := "crush.go:55", after := #[], guard := none }) (v := ?_) rfl (by kernel_rfl) (by kernel_rfl) (by kernel_rfl) (fun _ _ _ h => h) (Or.inl ⟨by rfl, ?_⟩) hHeld ?_
              rotate_left 1
              · intro W hSw
                (try dsimp only at hSw)
                go_simp
                try with_reducible rfl
              try simp only [Act.put, List.setIfInBounds_toArray, List.set_cons_zero, List.set_cons_succ]
              refine wpAnyH_take (i := 2) (oi := { dst := some 33, op := Op.binOp BinOp.neq 4 (Operand.tmp 31) (Operand.tmp 32) 4, type := 4, pos := "crush.go:55", after := #[{ on := 0, ground := Ground.data }, { on := 1, ground := Ground.data }], guard := none }) (v := ?_) rfl (by kernel_rfl) (by kernel_rfl) (by kernel_rfl) (fun _ _ _ h => h) (Or.inl ⟨by rfl, ?_⟩) hHeld ?_
              rotate_left 1
              · intro W hSw
                (try dsimp only at hSw)
                go_simp
                try with_reducible rfl
              try simp only [Act.put, List.setIfInBounds_toArray, List.set_cons_zero, List.set_cons_succ]
              refine wpAnyH_take (i := 3) (oi := { dst := some 34, op := Op.move (Operand.tmp 33), type := 4, pos := "crush.go:55", after := #[{ on := 2, ground := Ground.data }], guard := none }) (v := ?_) rfl (by kernel_rfl) (by kernel_rfl) (by kernel_rfl) (fun _ _ _ h => h) (Or.inl ⟨by rfl, ?_⟩) hHeld ?_
              rotate_left 1
              · intro W hSw
                (try dsimp only at hSw)
                go_simp
                try with_reducible rfl
              try simp only [Act.put, List.setIfInBounds_toArray, List.set_cons_zero, List.set_cons_succ]
              refine wpAnyH_take (i := 4) (oi := { dst := some 35, op := Op.move (Operand.tmp 12), type := 4, pos := "crush.go:55", after := #[{ on := 3, ground := Ground.guard }], guard := some (3, false) }) (v := ?_) rfl (by kernel_rfl) (by kernel_rfl) (by kernel_rfl) (fun _ _ _ h => h) (Or.inl ⟨by rfl, ?_⟩) hHeld ?_
              rotate_left 1
              · intro W hSw
                (try dsimp only at hSw)
                go_simp
                try with_reducible rfl
              try simp only [Act.put, List.setIfInBounds_toArray, List.set_cons_zero, List.set_cons_succ]
              refine wpAnyH_take (i := 5) (oi := { dst := some 36, op := Op.move (Operand.tmp 35), type := 4, pos := "crush.go:55", after := #[{ on := 4, ground := Ground.data }, { on := 3, ground := Ground.chain }, { on := 3, ground := Ground.guard }], guard := some (3, false) }) (v := ?_) rfl (by kernel_rfl) (by kernel_rfl) (by kernel_rfl) (fun _ _ _ h => h) (Or.inl ⟨by rfl, ?_⟩) hHeld ?_
              rotate_left 1
              · intro W hSw
                (try dsimp only at hSw)
                go_simp
                try with_reducible rfl
              try simp only [Act.put, List.setIfInBounds_toArray, List.set_cons_zero, List.set_cons_succ]
              refine wpAnyH_take (i := 6) (oi := { dst := some 37, op := Op.load 22 (Operand.tmp 4), type := 22, pos := "crush.go:55", after := #[{ on := 5, ground := Ground.guard }], guard := some (5, true) }) (v := ?_) rfl (by kernel_rfl) (by kernel_rfl) (by kernel_rfl) (fun _ _ _ h => h) (Or.inl ⟨by rfl, ?_⟩) hHeld ?_
              rotate_left 1
              · intro W hSw
                (try dsimp only at hSw)
                go_simp
                try with_reducible rfl
              try simp only [Act.put, List.setIfInBounds_toArray, List.set_cons_zero, List.set_cons_succ]
              refine wpAnyH_take (i := 7) (oi := { dst := some 38, op := Op.move (Operand.tmp 11), type := 3, pos := "crush.go:55", after := #[{ on := 5, ground := Ground.guard }], guard := some (5, true) }) (v := ?_) rfl (by kernel_rfl) (by kernel_rfl) (by kernel_rfl) (fun _ _ _ h => h) (Or.inl ⟨by rfl, ?_⟩) hHeld ?_
              rotate_left 1
              · intro W hSw
                (try dsimp only at hSw)
                go_simp
                try with_reducible rfl
              try simp only [Act.put, List.setIfInBounds_toArray, List.set_cons_zero, List.set_cons_succ]
              refine wpAnyH_take (i := 8) (oi := { dst := some 39, op := Op.indexAddr 22 (Operand.tmp 37) (Operand.tmp 38), type := 0, pos := "crush.go:55", after := #[{ on := 6, ground := Ground.data }, { on := 7, ground := Ground.data }, { on := 5, ground := Ground.guard }], guard := some (5, true) }) (v := ?_) rfl (by kernel_rfl) (by kernel_rfl) (by kernel_rfl) (fun _ _ _ h => h) (Or.inl ⟨by rfl, ?_⟩) hHeld ?_
              rotate_left 1
              · intro W hSw
                (try dsimp only at hSw)
                go_simp
                try with_reducible rfl
              try simp only [Act.put, List.setIfInBounds_toArray, List.set_cons_zero, List.set_cons_succ]
              refine wpAnyH_take (i := 9) (oi := { dst := some 40, op := Op.fieldAddr 33 (Operand.tmp 39) 0, type := 0, pos := "crush.go:55", after := #[{ on := 8, ground := Ground.data }, { on := 5, ground := Ground.guard }], guard := some (5, true) }) (v := ?_) rfl (by kernel_rfl) (by kernel_rfl) (by kernel_rfl) (fun _ _ _ h => h) (Or.inl ⟨by rfl, ?_⟩) hHeld ?_
              rotate_left 1
              · intro W hSw
                (try dsimp only at hSw)
                go_simp
                try with_reducible rfl
              try simp only [Act.put, List.setIfInBounds_toArray, List.set_cons_zero, List.set_cons_succ]
              refine wpAnyH_take (i := 10) (oi := { dst := some 41, op := Op.load 3 (Operand.tmp 40), type := 3, pos := "crush.go:55", after := #[{ on := 9, ground := Ground.data }, { on := 5, ground := Ground.guard }], guard := some (5, true) }) (v := ?_) rfl (by kernel_rfl) (by kernel_rfl) (by kernel_rfl) (fun _ _ _ h => h) (Or.inl ⟨by rfl, ?_⟩) hHeld ?_
              rotate_left 1
              · intro W hSw
                (try dsimp only at hSw)
                go_simp
                try with_reducible rfl
              try simp only [Act.put, List.setIfInBounds_toArray, List.set_cons_zero, List.set_cons_succ]
              refine wpAnyH_take (i := 11) (oi := { dst := some 42, op := Op.load 22 (Operand.tmp 5), type := 22, pos := "crush.go:55", after := #[{ on := 5, ground := Ground.guard }], guard := some (5, true) }) (v := ?_) rfl (by kernel_rfl) (by kernel_rfl) (by kernel_rfl) (fun _ _ _ h => h) (Or.inl ⟨by rfl, ?_⟩) hHeld ?_
              rotate_left 1
              · intro W hSw
                (try dsimp only at hSw)
                go_simp
                try with_reducible rfl
              try simp only [Act.put, List.setIfInBounds_toArray, List.set_cons_zero, List.set_cons_succ]
              refine wpAnyH_take (i := 12) (oi := { dst := some 43, op := Op.move (Operand.tmp 13), type := 3, pos := "crush.go:55", after := #[{ on := 5, ground := Ground.guard }], guard := some (5, true) }) (v := ?_) rfl (by kernel_rfl) (by kernel_rfl) (by kernel_rfl) (fun _ _ _ h => h) (Or.inl ⟨by rfl, ?_⟩) hHeld ?_
              rotate_left 1
              · intro W hSw
                (try dsimp only at hSw)
                go_simp
                try with_reducible rfl
              try simp only [Act.put, List.setIfInBounds_toArray, List.set_cons_zero, List.set_cons_succ]
              refine wpAnyH_take (i := 13) (oi := { dst := some 44, op := Op.indexAddr 22 (Operand.tmp 42) (Operand.tmp 43), type := 0, pos := "crush.go:55", after := #[{ on := 11, ground := Ground.data }, { on := 12, ground := Ground.data }, { on := 5, ground := Ground.guard }], guard := some (5, true) }) (v := ?_) rfl (by kernel_rfl) (by kernel_rfl) (by kernel_rfl) (fun _ _ _ h => h) (Or.inl ⟨by rfl, ?_⟩) hHeld ?_
              rotate_left 1
              · intro W hSw
                (try dsimp only at hSw)
                go_simp
                try with_reducible rfl
              try simp only [Act.put, List.setIfInBounds_toArray, List.set_cons_zero, List.set_cons_succ]
              refine wpAnyH_take (i := 14) (oi := { dst := some 45, op := Op.fieldAddr 33 (Operand.tmp 44) 0, type := 0, pos := "crush.go:55", after := #[{ on := 13, ground := Ground.data }, { on := 5, ground := Ground.guard }], guard := some (5, true) }) (v := ?_) rfl (by kernel_rfl) (by kernel_rfl) (by kernel_rfl) (fun _ _ _ h => h) (Or.inl ⟨by rfl, ?_⟩) hHeld ?_
              rotate_left 1
              · intro W hSw
                (try dsimp only at hSw)
                go_simp
                try with_reducible rfl
              try simp only [Act.put, List.setIfInBounds_toArray, List.set_cons_zero, List.set_cons_succ]
              refine wpAnyH_take (i := 15) (oi := { dst := some 46, op := Op.load 3 (Operand.tmp 45), type := 3, pos := "crush.go:55", after := #[{ on := 14, ground := Ground.data }, { on := 5, ground := Ground.guard }], guard := some (5, true) }) (v := ?_) rfl (by kernel_rfl) (by kernel_rfl) (by kernel_rfl) (fun _ _ _ h => h) (Or.inl ⟨by rfl, ?_⟩) hHeld ?_
              rotate_left 1
              · intro W hSw
                (try dsimp only at hSw)
                go_simp
                try with_reducible rfl
              try simp only [Act.put, List.setIfInBounds_toArray, List.set_cons_zero, List.set_cons_succ]
              refine wpAnyH_take (i := 16) (oi := { dst := some 47, op := Op.binOp BinOp.neq 3 (Operand.tmp 41) (Operand.tmp 46) 3, type := 4, pos := "crush.go:55", after := #[{ on := 10, ground := Ground.data }, { on := 15, ground := Ground.data }, { on := 5, ground := Ground.guard }], guard := some (5, true) }) (v := ?_) rfl (by kernel_rfl) (by kernel_rfl) (by kernel_rfl) (fun _ _ _ h => h) (Or.inl ⟨by rfl, ?_⟩) hHeld ?_
              rotate_left 1
              · intro W hSw
                (try dsimp only at hSw)
                go_simp
                try with_reducible rfl
              try simp only [Act.put, List.setIfInBounds_toArray, List.set_cons_zero, List.set_cons_succ]
              refine wpAnyH_take (i := 17) (oi := { dst := some 48, op := Op.pick (Operand.tmp 36) (Operand.tmp 47) (Operand.const (Value.bool false)), type := 4, pos := "crush.go:55", after := #[{ on := 5, ground := Ground.data }, { on := 16, ground := Ground.data }, { on := 3, ground := Ground.guard }], guard := some (3, false) }) (v := ?_) rfl (by kernel_rfl) (by kernel_rfl) (by kernel_rfl) (fun _ _ _ h => h) (Or.inl ⟨by rfl, ?_⟩) hHeld ?_
              rotate_left 1
              · intro W hSw
                (try dsimp only at hSw)
                go_simp
                try with_reducible rfl
              try simp only [Act.put, List.setIfInBounds_toArray, List.set_cons_zero, List.set_cons_succ]
              refine wpAnyH_take (i := 18) (oi := { dst := some 49, op := Op.pick (Operand.tmp 34) (Operand.const (Value.bool true)) (Operand.tmp 48), type := 4, pos := "crush.go:55", after := #[{ on := 3, ground := Ground.data }, { on := 17, ground := Ground.data }], guard := none }) (v := ?_) rfl (by kernel_rfl) (by kernel_rfl) (by kernel_rfl) (fun _ _ _ h => h) (Or.inl ⟨by rfl, ?_⟩) hHeld ?_
              rotate_left 1
              · intro W hSw
                (try dsimp only at hSw)
                go_simp
                try with_reducible rfl
              try simp only [Act.put, List.setIfInBounds_toArray, List.set_cons_zero, List.set_cons_succ]
              refine wpAnyH_done (by kernel_rfl) ?_ _
              generalize (i1 != i2) = u at HU ⊢
              clear s1 s2 s3 s4 g1 g2 g3 g4
              cases u with
              | false =>
                refine calm_normal ?_
                have hmc1 : mc1 = mc := by have h := HSuc.out; rw [HU.out] at h; exact h
                subst hmc1
                clear hHeld kc kf
                gi_wp2
              | true =>
                refine calm_normal ?_
                have hmc1 : mc1 = mc + 1 := by have h := HSuc.out; rw [HU.out] at h; exact h
                subst hmc1
                clear hHeld
                gi_wp2
                exact HUp
              --R6SSE
        · rintro e a8 W8 ⟨rfl, HZ2⟩
          exact ⟨HZ2.out.lp, HZ2.out.putLp _⟩
      · rintro e W' (⟨he, h⟩ | ⟨_, h⟩)
        · exact ⟨he, h⟩
        · exact h.elim
  case hdone =>
    rintro W r2 r' ⟨lp, hgb⟩ hb
    simp only [hs0]
    have hg2 := hgb.putLp (.loop r')
    clear hgb hb
    generalize W.putObj (N + 5 + 1) (.loop r') = W3 at hg2 ⊢
    have k7 := box_cell hg2.cnt
    have HG3 := Lib.hid hg2
    clear hg2
    gi_wp2
    have hg5 := HG3.out
    refine ⟨by simp, .inl ⟨_, _, rfl, run_takeDeferred hg5.df, ?_⟩⟩
    refine ⟨_, results_tmp rfl _ _, ?_, by rw [HN.out]; exact below_putObj' hg5.bel (N + 5) (.deferred none) (by omega)⟩
    rw [HMn.out]
    rfl
  case hstop => exact fun _ _ _ h => h.elim
end Go.Proofs.Ytnacobhhgeljoaa.crush
