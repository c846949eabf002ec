/- LeadHears (P16.2, P16.3, P16.5): the law's walk. -/
import Derived.Test.YtmdipcemhaomhaaRows
import Derived.Test.YtmdipcemhaomhaaLeadRPick
import Derived.Test.YtmdipcemhaomhaaLeadRHear
import Derived.Test.YtmdipcemhaomhaaLeadRSame
import Derived.Test.YtmdipcemhaomhaaLeadRises
import Derived.Test.YtmdipcemhaomhaaLeadAwake
import Derived.Test.YtmdipcemhaomhaaLeadLawN
namespace Go.Proofs.Ytmdipcemhaomhaa.crush
open Go.RowKit
open Go.Proofs.Ytmdipcemhaomhaa.kit Go.Proofs.Ytmdipcemhaomhaa.own
set_option linter.unusedVariables false
set_option linter.unusedSimpArgs false

/-- The boxes of the law. -/
structure HhB (w : World) (N : Nat) (l : LeadV) (s t : Value) (b : BalV) (own p : PromV) (W : World) : Prop where
  bel : Below w.heap.size w W
  A : LBox W N l.st l.r l.m s l.has l.val t
  bb : BBx W (N + 1) b.r b.m
  ow : PrBox W (N + 1 + 1) own
  pp : PrBox W (N + 1 + 1 + 1) p
theorem HhB.keep {w : World} {N : Nat} {l : LeadV} {s t : Value} {b : BalV} {own p : PromV} {W W' : World} (h : HhB w N l s t b own p W) (hb : Below W.heap.size W W') : HhB w N l s t b own p W' :=
  ⟨h.bel.trans (hb.mono h.bel.size), h.A.keep hb, h.bb.keep hb, (hb.block _ h.ow.lt).trans h.ow, (hb.block _ h.pp.lt).trans h.pp⟩

set_option maxHeartbeats 32000000 in
set_option maxRecDepth 100000 in
theorem walkHears (v : Value) (l : LeadV) (b : BalV) (own p : PromV) (mons count : Int) (w : World) (h : LdR w v l) (hq : LdQ v l) (hl : l.Small) (hm : I64 mons) :
    Calls Try.prog 6 #[v, b.val, .agg (prc own).toArray, .agg (prc p).toArray, .int .i64 mons, .int .i64 count] w fun e w' => e = .returned (.bool true) ∧ Below w.heap.size w w' := by
  have HQ := Lib.hid hq
  obtain ⟨sa, sc, ta, tc, rfl, hcs, hct⟩ := hq
  have HLd := Lib.hid (fun u (hu : Below w.heap.size w u) => h.keep hu)
  have HSm := Lib.hid hl
  have HB1 := Lib.hid (fun u => Begin_any b own u)
  have HB2 := Lib.hid (fun u => rBegin_any b own u)
  have HS1 := Lib.hid (fun x B C s t s' t' u (h1 : LdO u B s t x) (h2 : LdO u C s' t' x) => (SameL_any (x.agg s t) (x.agg s' t') x x u h1.read h2.read).mono (fun e w' h => (show e = .returned (.bool true) ∧ Below u.heap.size u w' from ⟨by rw [h.1, sameB_self], h.2⟩)))
  have HS2 := Lib.hid (fun x B C s t s' t' u (h1 : LdO u B s t x) (h2 : LdO u C s' t' x) => (rSameL_any (x.agg s t) (x.agg s' t') x x u h1.read h2.read).mono (fun e w' h => (show e = .returned (.bool true) ∧ Below u.heap.size u w' from ⟨by rw [h.1, sameB_self], h.2⟩)))
  have HS3 := Lib.hid (fun B s t u (h1 : LdO u B s t l) (hu : Below w.heap.size w u) => (rSameL_any (l.agg s t) _ l l u h1.read (HLd.out u hu)).mono (fun e w' h => (show e = .returned (.bool true) ∧ Below u.heap.size u w' from ⟨by rw [h.1, sameB_self], h.2⟩)))
  have HRs := Lib.hid (fun u (hu : Below w.heap.size w u) => rRises_any _ l u (HLd.out u hu) hl)
  have HCp := Lib.hid (fun u (hu : Below w.heap.size w u) => rCopyL_any _ l u (HLd.out u hu) hl)
  have HH2 := Lib.hid (fun u (hu : Below w.heap.size w u) => rHear_any _ l p u (HLd.out u hu) HQ.out hl)
  have HH1 := Lib.hid (fun B s t u (h1 : LdO u B s t l) (hr : Ris PromV.mon l.ps) => Hear_any (l.agg s t) l p u h1.read hl (fun _ => hr))
  have HE1 := Lib.hid (fun B s t u (h1 : LdO u B s t l) => Enough_any (l.agg s t) l mons u h1.read hm)
  have HE2 := Lib.hid (fun u (hu : Below w.heap.size w u) => rEnough_any _ l mons u (HLd.out u hu) hm)
  have HP1 := Lib.hid (fun B s t u (h1 : LdO u B s t l) => Pick_any (l.agg s t) l count u h1.read)
  have HP2 := Lib.hid (fun u (hu : Below w.heap.size w u) => rPick_any _ l count u (HLd.out u hu) hl)
  have HAw := Lib.hid (fun u => awakeL_any u)
  generalize beginE b own = lb at HB1 HB2
  generalize l.hear p = lh at HH1 HH2
  generalize l.enough mons = le at HE1 HE2
  generalize bestP count noP l.ps = bp at HP1 HP2
  unfold LdS LeadV.agg at HB1 HB2 HCp HH1 HH2
  unfold LeadV.agg at HS1 HS2 HS3 HRs HE1 HE2 HP1 HP2
  unfold RisS at HRs
  unfold BalV.val at HB1 HB2
  unfold prc at HB1 HB2 HH1 HH2
  clear h hl hm hcs hct HLd HQ
  unfold LeadV.agg BalV.val prc
  have HX : Hid (HhB w w.heap.size l (.slice sa l.ps.length sc) (.slice ta l.ak.length tc) b own p ((((w.alloc (.cells #[.int .i64 l.st, .int .i64 l.r, .int .i64 l.m, .slice sa l.ps.length sc, .bool l.has, .string l.val, .slice ta l.ak.length tc] 67)).alloc (.cells #[.int .i64 b.r, .int .i64 b.m] 23)).alloc (.cells #[.int .i64 own.mon, .int .i64 own.n, .bool own.has, .int .i64 own.ar, .int .i64 own.am, .string own.val] 37)).alloc (.cells #[.int .i64 p.mon, .int .i64 p.n, .bool p.has, .int .i64 p.ar, .int .i64 p.am, .string p.val] 37))) := by
    have b1 := below_new w (.cells #[.int .i64 l.st, .int .i64 l.r, .int .i64 l.m, .slice sa l.ps.length sc, .bool l.has, .string l.val, .slice ta l.ak.length tc] 67)
    have b2 := below_new (w.alloc (.cells #[.int .i64 l.st, .int .i64 l.r, .int .i64 l.m, .slice sa l.ps.length sc, .bool l.has, .string l.val, .slice ta l.ak.length tc] 67)) (.cells #[.int .i64 b.r, .int .i64 b.m] 23)
    have b3 := below_new ((w.alloc (.cells #[.int .i64 l.st, .int .i64 l.r, .int .i64 l.m, .slice sa l.ps.length sc, .bool l.has, .string l.val, .slice ta l.ak.length tc] 67)).alloc (.cells #[.int .i64 b.r, .int .i64 b.m] 23)) (.cells #[.int .i64 own.mon, .int .i64 own.n, .bool own.has, .int .i64 own.ar, .int .i64 own.am, .string own.val] 37)
    have b4 := below_new (((w.alloc (.cells #[.int .i64 l.st, .int .i64 l.r, .int .i64 l.m, .slice sa l.ps.length sc, .bool l.has, .string l.val, .slice ta l.ak.length tc] 67)).alloc (.cells #[.int .i64 b.r, .int .i64 b.m] 23)).alloc (.cells #[.int .i64 own.mon, .int .i64 own.n, .bool own.has, .int .i64 own.ar, .int .i64 own.am, .string own.val] 37)) (.cells #[.int .i64 p.mon, .int .i64 p.n, .bool p.has, .int .i64 p.ar, .int .i64 p.am, .string p.val] 37)
    have x1 := lbox_new w l.st l.r l.m (.slice sa l.ps.length sc) l.has l.val (.slice ta l.ak.length tc)
    have x2 := bbx_new (w.alloc (.cells #[.int .i64 l.st, .int .i64 l.r, .int .i64 l.m, .slice sa l.ps.length sc, .bool l.has, .string l.val, .slice ta l.ak.length tc] 67)) b.r b.m
    have x3 : PrBox (((w.alloc (.cells #[.int .i64 l.st, .int .i64 l.r, .int .i64 l.m, .slice sa l.ps.length sc, .bool l.has, .string l.val, .slice ta l.ak.length tc] 67)).alloc (.cells #[.int .i64 b.r, .int .i64 b.m] 23)).alloc (.cells #[.int .i64 own.mon, .int .i64 own.n, .bool own.has, .int .i64 own.ar, .int .i64 own.am, .string own.val] 37)) ((w.alloc (.cells #[.int .i64 l.st, .int .i64 l.r, .int .i64 l.m, .slice sa l.ps.length sc, .bool l.has, .string l.val, .slice ta l.ak.length tc] 67)).alloc (.cells #[.int .i64 b.r, .int .i64 b.m] 23)).heap.size own := alloc_at _ _
    have x4 : PrBox ((((w.alloc (.cells #[.int .i64 l.st, .int .i64 l.r, .int .i64 l.m, .slice sa l.ps.length sc, .bool l.has, .string l.val, .slice ta l.ak.length tc] 67)).alloc (.cells #[.int .i64 b.r, .int .i64 b.m] 23)).alloc (.cells #[.int .i64 own.mon, .int .i64 own.n, .bool own.has, .int .i64 own.ar, .int .i64 own.am, .string own.val] 37)).alloc (.cells #[.int .i64 p.mon, .int .i64 p.n, .bool p.has, .int .i64 p.ar, .int .i64 p.am, .string p.val] 37)) (((w.alloc (.cells #[.int .i64 l.st, .int .i64 l.r, .int .i64 l.m, .slice sa l.ps.length sc, .bool l.has, .string l.val, .slice ta l.ak.length tc] 67)).alloc (.cells #[.int .i64 b.r, .int .i64 b.m] 23)).alloc (.cells #[.int .i64 own.mon, .int .i64 own.n, .bool own.has, .int .i64 own.ar, .int .i64 own.am, .string own.val] 37)).heap.size p := alloc_at _ _
    rw [World.size_alloc] at x2
    rw [World.size_alloc, World.size_alloc] at x3
    rw [World.size_alloc, World.size_alloc, World.size_alloc] at x4
    have c12 := b1.trans (b2.mono b1.size)
    have c123 := c12.trans (b3.mono c12.size)
    exact Lib.hid ⟨c123.trans (b4.mono c123.size), ((x1.keep b2).keep b3).keep b4, (x2.keep b3).keep b4, (b4.block _ x3.lt).trans x3, x4⟩
  go_enter Try.func6, Try.ntmps6
  go_upto_region 1 with fail
  generalize ((((w.alloc (.cells #[.int .i64 l.st, .int .i64 l.r, .int .i64 l.m, .slice sa l.ps.length sc, .bool l.has, .string l.val, .slice ta l.ak.length tc] 67)).alloc (.cells #[.int .i64 b.r, .int .i64 b.m] 23)).alloc (.cells #[.int .i64 own.mon, .int .i64 own.n, .bool own.has, .int .i64 own.ar, .int .i64 own.am, .string own.val] 37)).alloc (.cells #[.int .i64 p.mon, .int .i64 p.n, .bool p.has, .int .i64 p.ar, .int .i64 p.am, .string p.val] 37)) = U at HX ⊢
  have HX := Lib.hid (HX.out.keep (below_drew (Below.refl _ _)))
  --R1
  refine wp_region_held_drew (S := fun u => (u.cell? ⟨w.heap.size + 1, 0, none⟩ = some (.int .i64 b.r) ∧ u.cell? ⟨w.heap.size + 1, 1, none⟩ = some (.int .i64 b.m)) ∧ (u.cell? ⟨w.heap.size + 1 + 1, 0, none⟩ = some (.int .i64 own.mon) ∧ u.cell? ⟨w.heap.size + 1 + 1, 1, none⟩ = some (.int .i64 own.n) ∧ u.cell? ⟨w.heap.size + 1 + 1, 2, none⟩ = some (.bool own.has) ∧ u.cell? ⟨w.heap.size + 1 + 1, 3, none⟩ = some (.int .i64 own.ar) ∧ u.cell? ⟨w.heap.size + 1 + 1, 4, none⟩ = some (.int .i64 own.am) ∧ u.cell? ⟨w.heap.size + 1 + 1, 5, none⟩ = some (.string own.val))) (by kernel_rfl) (⟨HX.out.bb.cells, HX.out.ow.cells⟩) (fun hHeld => ?_)
  generalize U.drew = U at *
  refine wpAnyH_take (i := 0) (oi := { dst := some 18, op := Op.load 23 (Operand.tmp 7), type := 23, pos := "law.go:24", after := #[], guard := none }) (v := ?_) rfl (by kernel_rfl) (by kernel_rfl) (by kernel_rfl) (fun _ _ _ h => h) (Or.inl ⟨by rfl, ?_⟩) hHeld ?_
  rotate_left 1
  · intro W hSw
    (try dsimp only at hSw)
    go_simp
    try with_reducible rfl
  try simp only [Act.put, List.setIfInBounds_toArray, List.set_cons_zero, List.set_cons_succ]
  refine wpAnyH_take (i := 1) (oi := { dst := some 19, op := Op.load 37 (Operand.tmp 8), type := 37, pos := "law.go:24", after := #[], guard := none }) (v := ?_) rfl (by kernel_rfl) (by kernel_rfl) (by kernel_rfl) (fun _ _ _ h => h) (Or.inl ⟨by rfl, ?_⟩) hHeld ?_
  rotate_left 1
  · intro W hSw
    (try dsimp only at hSw)
    go_simp
    try with_reducible rfl
  try simp only [Act.put, List.setIfInBounds_toArray, List.set_cons_zero, List.set_cons_succ]
  refine wpAnyH_take (i := 3) (oi := { dst := some 21, op := Op.load 23 (Operand.tmp 7), type := 23, pos := "law.go:24", after := #[], guard := none }) (v := ?_) rfl (by kernel_rfl) (by kernel_rfl) (by kernel_rfl) (fun _ _ _ h => h) (Or.inl ⟨by rfl, ?_⟩) hHeld ?_
  rotate_left 1
  · intro W hSw
    (try dsimp only at hSw)
    go_simp
    try with_reducible rfl
  try simp only [Act.put, List.setIfInBounds_toArray, List.set_cons_zero, List.set_cons_succ]
  refine wpAnyH_take (i := 4) (oi := { dst := some 22, op := Op.load 37 (Operand.tmp 8), type := 37, pos := "law.go:24", after := #[], guard := none }) (v := ?_) rfl (by kernel_rfl) (by kernel_rfl) (by kernel_rfl) (fun _ _ _ h => h) (Or.inl ⟨by rfl, ?_⟩) hHeld ?_
  rotate_left 1
  · intro W hSw
    (try dsimp only at hSw)
    go_simp
    try with_reducible rfl
  try simp only [Act.put, List.setIfInBounds_toArray, List.set_cons_zero, List.set_cons_succ]
  refine wpAnyH_ready (rs := [2]) (by kernel_rfl) (by simp) ?_
  refine AllReadyH.cons (o := { dst := some 20, op := Op.call { callee := Callee.value (Operand.func 32), args := #[Operand.tmp 18, Operand.tmp 19], argTypes := #[23, 37] }, type := 67, pos := "law.go:24", after := #[{ on := 0, ground := Ground.data }, { on := 1, ground := Ground.data }], guard := none }) rfl (fun K7 hK7 => ?_) ?_
  · go_simp
    refine (HB1.out _).mono ?_
    rintro e V ⟨s1, t1, rfl, ho, hb⟩
    obtain ⟨g1, g2, rfl⟩ := ho.1.slice
    obtain ⟨g3, g4, rfl⟩ := ho.2.slice
    have HO1 := Lib.hid ho
    clear ho
    have HX := Lib.hid (HX.out.keep hb)
    clear hb
    obtain ⟨U, rfl⟩ : ∃ Z, Z = V := ⟨_, rfl⟩
    try dsimp only
    refine hK7.out _ _ (⟨HX.out.bb.cells, HX.out.ow.cells⟩) (fun hHeld => ?_)
    clear hK7 K7
    try simp only [Act.put, List.setIfInBounds_toArray, List.set_cons_zero, List.set_cons_succ]
    refine wpAnyH_ready (rs := [5]) (by kernel_rfl) (by simp) ?_
    refine AllReadyH.cons (o := { dst := some 23, op := Op.call { callee := Callee.value (Operand.func 33), args := #[Operand.tmp 21, Operand.tmp 22], argTypes := #[23, 37] }, type := 67, pos := "law.go:24", after := #[{ on := 3, ground := Ground.data }, { on := 4, ground := Ground.data }, { on := 2, ground := Ground.chain }], guard := none }) rfl (fun K7 hK7 => ?_) ?_
    · go_simp
      refine (HB2.out _).mono ?_
      rintro e V ⟨s2, t2, rfl, ho, hb⟩
      obtain ⟨h1, h2, rfl⟩ := ho.1.slice
      obtain ⟨h3, h4, rfl⟩ := ho.2.slice
      have HO1 := Lib.hid (HO1.out.keep hb)
      have HO2 := Lib.hid ho
      clear ho
      have HX := Lib.hid (HX.out.keep hb)
      clear hb
      obtain ⟨U, rfl⟩ : ∃ Z, Z = V := ⟨_, rfl⟩
      try dsimp only
      refine hK7.out _ _ (⟨HX.out.bb.cells, HX.out.ow.cells⟩) (fun hHeld => ?_)
      clear hK7 K7
      try simp only [Act.put, List.setIfInBounds_toArray, List.set_cons_zero, List.set_cons_succ]
      refine wpAnyH_ready (rs := [6]) (by kernel_rfl) (by simp) ?_
      refine AllReadyH.cons (o := { dst := some 24, op := Op.call { callee := Callee.value (Operand.func 31), args := #[Operand.tmp 20, Operand.tmp 23], argTypes := #[67, 67] }, type := 4, pos := "law.go:24", after := #[{ on := 2, ground := Ground.data }, { on := 5, ground := Ground.data }, { on := 5, ground := Ground.chain }], guard := none }) rfl (fun K7 hK7 => ?_) ?_
      · go_simp
        refine (HS1.out _ _ _ _ _ _ _ _ HO1.out HO2.out).mono ?_
        rintro e V ⟨rfl, hb⟩
        have HX := Lib.hid (HX.out.keep hb)
        clear hb
        obtain ⟨U, rfl⟩ : ∃ Z, Z = V := ⟨_, rfl⟩
        try dsimp only
        refine hK7.out _ _ (⟨HX.out.bb.cells, HX.out.ow.cells⟩) (fun hHeld => ?_)
        clear hK7 K7
        try simp only [Act.put, List.setIfInBounds_toArray, List.set_cons_zero, List.set_cons_succ]
        refine wpAnyH_take (i := 7) (oi := { dst := some 25, op := Op.unOp UnOp.not 4 (Operand.tmp 24), type := 4, pos := "law.go:24", after := #[{ on := 6, ground := Ground.data }], guard := none }) (v := ?_) rfl (by kernel_rfl) (by kernel_rfl) (by kernel_rfl) (fun _ _ _ h => h) (Or.inl ⟨by rfl, ?_⟩) hHeld ?_
        rotate_left 1
        · intro W hSw
          (try dsimp only at hSw)
          go_simp
          try with_reducible rfl
        try simp only [Act.put, List.setIfInBounds_toArray, List.set_cons_zero, List.set_cons_succ]
        refine wpAnyH_done (by kernel_rfl) ?_ _
        clear hHeld
        clear HO1 HO2
        obtain ⟨m0, m1, m2, m3, m4, m5, m6⟩ := HX.out.A.cells
        go_upto_region 4 with (go_at_call 34; refine (HRs.out _ HX.out.bel).mono ?_; rintro e V ⟨q, rfl, hq, hb⟩; have HQ := Lib.hid hq; have HX := Lib.hid (HX.out.keep hb); clear hb hq m0 m1 m2 m3 m4 m5 m6; obtain ⟨m0, m1, m2, m3, m4, m5, m6⟩ := HX.out.A.cells; cases q)
        next =>
          clear m0 m1 m2 m3 m4 m5 m6
          go_wp2_with (go_at_call 30; refine (HAw.out _).mono ?_; rintro e w2 ⟨rfl, hb⟩; have HX := Lib.hid (HX.out.keep hb); clear hb)
          go_ret
          exact ⟨rfl, HX.out.bel⟩
        next =>
          have HRi : Hid (Ris PromV.mon l.ps) := Lib.hid (by first | exact (HQ.out rfl).1 | exact (HQ.out trivial).1 | exact HQ.out.1)
          go_upto_region 6 with (go_at_call 35; refine (HCp.out _ HX.out.bel).mono ?_; rintro e w5 ⟨s5, t5, rfl, ho, hb⟩; obtain ⟨a5, c5, rfl⟩ := ho.1.slice; obtain ⟨b5, d5, rfl⟩ := ho.2.slice; have HOc := Lib.hid (ho.mono (Nat.zero_le _)); have HX := Lib.hid (HX.out.keep hb); clear ho hb m0 m1 m2 m3 m4 m5 m6)
          have hbn := below_new w5 (.cells #[.int .i64 l.st, .int .i64 l.r, .int .i64 l.m, .slice a5 l.ps.length c5, .bool l.has, .string l.val, .slice b5 l.ak.length d5] 67)
          have HX := Lib.hid (HX.out.keep hbn)
          have HOc := Lib.hid (HOc.out.keep hbn)
          have HCx := Lib.hid (lbox_new w5 l.st l.r l.m (.slice a5 l.ps.length c5) l.has l.val (.slice b5 l.ak.length d5))
          clear hbn
          generalize w5.alloc _ = U6 at HX HOc HCx ⊢
          generalize w5.heap.size = K at HCx ⊢
          obtain ⟨U, rfl⟩ : ∃ Z, Z = U6 := ⟨_, rfl⟩
          have HX := Lib.hid (HX.out.keep (below_drew (Below.refl _ _)))
          have HOc := Lib.hid (HOc.out.keep (below_drew (Below.refl _ _)))
          have HCx := Lib.hid (HCx.out.keep (below_drew (Below.refl _ _)))
          refine wp_region_held_drew (S := fun u => (u.cell? ⟨K, 0, none⟩ = some (.int .i64 l.st) ∧ u.cell? ⟨K, 1, none⟩ = some (.int .i64 l.r) ∧ u.cell? ⟨K, 2, none⟩ = some (.int .i64 l.m) ∧ u.cell? ⟨K, 3, none⟩ = some (.slice a5 l.ps.length c5) ∧ u.cell? ⟨K, 4, none⟩ = some (.bool l.has) ∧ u.cell? ⟨K, 5, none⟩ = some (.string l.val) ∧ u.cell? ⟨K, 6, none⟩ = some (.slice b5 l.ak.length d5)) ∧ (u.cell? ⟨w.heap.size, 0, none⟩ = some (.int .i64 l.st) ∧ u.cell? ⟨w.heap.size, 1, none⟩ = some (.int .i64 l.r) ∧ u.cell? ⟨w.heap.size, 2, none⟩ = some (.int .i64 l.m) ∧ u.cell? ⟨w.heap.size, 3, none⟩ = some (.slice sa l.ps.length sc) ∧ u.cell? ⟨w.heap.size, 4, none⟩ = some (.bool l.has) ∧ u.cell? ⟨w.heap.size, 5, none⟩ = some (.string l.val) ∧ u.cell? ⟨w.heap.size, 6, none⟩ = some (.slice ta l.ak.length tc)) ∧ (u.cell? ⟨w.heap.size + 1 + 1 + 1, 0, none⟩ = some (.int .i64 p.mon) ∧ u.cell? ⟨w.heap.size + 1 + 1 + 1, 1, none⟩ = some (.int .i64 p.n) ∧ u.cell? ⟨w.heap.size + 1 + 1 + 1, 2, none⟩ = some (.bool p.has) ∧ u.cell? ⟨w.heap.size + 1 + 1 + 1, 3, none⟩ = some (.int .i64 p.ar) ∧ u.cell? ⟨w.heap.size + 1 + 1 + 1, 4, none⟩ = some (.int .i64 p.am) ∧ u.cell? ⟨w.heap.size + 1 + 1 + 1, 5, none⟩ = some (.string p.val))) (by kernel_rfl) (⟨HCx.out.cells, HX.out.A.cells, HX.out.pp.cells⟩) (fun hHeld => ?_)
          generalize U.drew = U at *
          refine wpAnyH_take (i := 0) (oi := { dst := some 32, op := Op.load 67 (Operand.tmp 13), type := 67, pos := "law.go:31", after := #[], guard := none }) (v := ?_) rfl (by kernel_rfl) (by kernel_rfl) (by kernel_rfl) (fun _ _ _ h => h) (Or.inl ⟨by rfl, ?_⟩) hHeld ?_
          rotate_left 1
          · intro W hSw
            (try dsimp only at hSw)
            go_simp
            try with_reducible rfl
          try simp only [Act.put, List.setIfInBounds_toArray, List.set_cons_zero, List.set_cons_succ]
          refine wpAnyH_take (i := 1) (oi := { dst := some 33, op := Op.load 37 (Operand.tmp 9), type := 37, pos := "law.go:31", after := #[], guard := none }) (v := ?_) rfl (by kernel_rfl) (by kernel_rfl) (by kernel_rfl) (fun _ _ _ h => h) (Or.inl ⟨by rfl, ?_⟩) hHeld ?_
          rotate_left 1
          · intro W hSw
            (try dsimp only at hSw)
            go_simp
            try with_reducible rfl
          try simp only [Act.put, List.setIfInBounds_toArray, List.set_cons_zero, List.set_cons_succ]
          refine wpAnyH_take (i := 3) (oi := { dst := some 35, op := Op.load 67 (Operand.tmp 6), type := 67, pos := "law.go:31", after := #[], guard := none }) (v := ?_) rfl (by kernel_rfl) (by kernel_rfl) (by kernel_rfl) (fun _ _ _ h => h) (Or.inl ⟨by rfl, ?_⟩) hHeld ?_
          rotate_left 1
          · intro W hSw
            (try dsimp only at hSw)
            go_simp
            try with_reducible rfl
          try simp only [Act.put, List.setIfInBounds_toArray, List.set_cons_zero, List.set_cons_succ]
          refine wpAnyH_take (i := 4) (oi := { dst := some 36, op := Op.load 37 (Operand.tmp 9), type := 37, pos := "law.go:31", after := #[], guard := none }) (v := ?_) rfl (by kernel_rfl) (by kernel_rfl) (by kernel_rfl) (fun _ _ _ h => h) (Or.inl ⟨by rfl, ?_⟩) hHeld ?_
          rotate_left 1
          · intro W hSw
            (try dsimp only at hSw)
            go_simp
            try with_reducible rfl
          try simp only [Act.put, List.setIfInBounds_toArray, List.set_cons_zero, List.set_cons_succ]
          refine wpAnyH_ready (rs := [2]) (by kernel_rfl) (by simp) ?_
          refine AllReadyH.cons (o := { dst := some 34, op := Op.call { callee := Callee.value (Operand.func 37), args := #[Operand.tmp 32, Operand.tmp 33], argTypes := #[67, 37] }, type := 67, pos := "law.go:31", after := #[{ on := 0, ground := Ground.data }, { on := 1, ground := Ground.data }], guard := none }) rfl (fun K7 hK7 => ?_) ?_
          · go_simp
            refine (HH1.out _ _ _ _ HOc.out HRi.out).mono ?_
            rintro e V ⟨s1, t1, rfl, ho, hb⟩
            obtain ⟨g1, g2, rfl⟩ := ho.1.slice
            obtain ⟨g3, g4, rfl⟩ := ho.2.slice
            have HO1 := Lib.hid ho
            clear ho
            have HX := Lib.hid (HX.out.keep hb)
            have HOc := Lib.hid (HOc.out.keep hb)
            have HCx := Lib.hid (HCx.out.keep hb)
            clear hb
            obtain ⟨U, rfl⟩ : ∃ Z, Z = V := ⟨_, rfl⟩
            try dsimp only
            refine hK7.out _ _ (⟨HCx.out.cells, HX.out.A.cells, HX.out.pp.cells⟩) (fun hHeld => ?_)
            clear hK7 K7
            try simp only [Act.put, List.setIfInBounds_toArray, List.set_cons_zero, List.set_cons_succ]
            refine wpAnyH_ready (rs := [5]) (by kernel_rfl) (by simp) ?_
            refine AllReadyH.cons (o := { dst := some 37, op := Op.call { callee := Callee.value (Operand.func 38), args := #[Operand.tmp 35, Operand.tmp 36], argTypes := #[67, 37] }, type := 67, pos := "law.go:31", after := #[{ on := 3, ground := Ground.data }, { on := 4, ground := Ground.data }, { on := 2, ground := Ground.chain }], guard := none }) rfl (fun K7 hK7 => ?_) ?_
            · go_simp
              refine (HH2.out _ HX.out.bel).mono ?_
              rintro e V ⟨s2, t2, rfl, ho, hb⟩
              obtain ⟨h1, h2, rfl⟩ := ho.1.slice
              obtain ⟨h3, h4, rfl⟩ := ho.2.slice
              have HO1 := Lib.hid (HO1.out.keep hb)
              have HO2 := Lib.hid ho
              clear ho
              have HX := Lib.hid (HX.out.keep hb)
              have HOc := Lib.hid (HOc.out.keep hb)
              have HCx := Lib.hid (HCx.out.keep hb)
              clear hb
              obtain ⟨U, rfl⟩ : ∃ Z, Z = V := ⟨_, rfl⟩
              try dsimp only
              refine hK7.out _ _ (⟨HCx.out.cells, HX.out.A.cells, HX.out.pp.cells⟩) (fun hHeld => ?_)
              clear hK7 K7
              try simp only [Act.put, List.setIfInBounds_toArray, List.set_cons_zero, List.set_cons_succ]
              refine wpAnyH_ready (rs := [6]) (by kernel_rfl) (by simp) ?_
              refine AllReadyH.cons (o := { dst := some 38, op := Op.call { callee := Callee.value (Operand.func 36), args := #[Operand.tmp 34, Operand.tmp 37], argTypes := #[67, 67] }, type := 4, pos := "law.go:31", after := #[{ on := 2, ground := Ground.data }, { on := 5, ground := Ground.data }, { on := 5, ground := Ground.chain }], guard := none }) rfl (fun K7 hK7 => ?_) ?_
              · go_simp
                refine (HS2.out _ _ _ _ _ _ _ _ HO1.out HO2.out).mono ?_
                rintro e V ⟨rfl, hb⟩
                have HX := Lib.hid (HX.out.keep hb)
                have HOc := Lib.hid (HOc.out.keep hb)
                have HCx := Lib.hid (HCx.out.keep hb)
                clear hb
                obtain ⟨U, rfl⟩ : ∃ Z, Z = V := ⟨_, rfl⟩
                try dsimp only
                refine hK7.out _ _ (⟨HCx.out.cells, HX.out.A.cells, HX.out.pp.cells⟩) (fun hHeld => ?_)
                clear hK7 K7
                try simp only [Act.put, List.setIfInBounds_toArray, List.set_cons_zero, List.set_cons_succ]
                refine wpAnyH_take (i := 7) (oi := { dst := some 39, op := Op.unOp UnOp.not 4 (Operand.tmp 38), type := 4, pos := "law.go:31", after := #[{ on := 6, ground := Ground.data }], guard := none }) (v := ?_) rfl (by kernel_rfl) (by kernel_rfl) (by kernel_rfl) (fun _ _ _ h => h) (Or.inl ⟨by rfl, ?_⟩) hHeld ?_
                rotate_left 1
                · intro W hSw
                  (try dsimp only at hSw)
                  go_simp
                  try with_reducible rfl
                try simp only [Act.put, List.setIfInBounds_toArray, List.set_cons_zero, List.set_cons_succ]
                refine wpAnyH_take (i := 8) (oi := { dst := some 40, op := Op.move (Operand.tmp 39), type := 4, pos := "law.go:31", after := #[{ on := 7, ground := Ground.data }, { on := 6, ground := Ground.chain }], guard := none }) (v := ?_) rfl (by kernel_rfl) (by kernel_rfl) (by kernel_rfl) (fun _ _ _ h => h) (Or.inl ⟨by rfl, ?_⟩) hHeld ?_
                rotate_left 1
                · intro W hSw
                  (try dsimp only at hSw)
                  go_simp
                  try with_reducible rfl
                try simp only [Act.put, List.setIfInBounds_toArray, List.set_cons_zero, List.set_cons_succ]
                refine wpAnyH_take (i := 9) (oi := { dst := some 41, op := Op.load 67 (Operand.tmp 13), type := 67, pos := "law.go:31", after := #[{ on := 8, ground := Ground.guard }], guard := some (8, false) }) (v := ?_) rfl (by kernel_rfl) (by kernel_rfl) (by kernel_rfl) (fun _ _ _ h => h) (Or.inl ⟨by rfl, ?_⟩) hHeld ?_
                rotate_left 1
                · intro W hSw
                  (try dsimp only at hSw)
                  go_simp
                  try with_reducible rfl
                try simp only [Act.put, List.setIfInBounds_toArray, List.set_cons_zero, List.set_cons_succ]
                refine wpAnyH_take (i := 10) (oi := { dst := some 42, op := Op.move (Operand.tmp 4), type := 3, pos := "law.go:31", after := #[{ on := 8, ground := Ground.guard }], guard := some (8, false) }) (v := ?_) rfl (by kernel_rfl) (by kernel_rfl) (by kernel_rfl) (fun _ _ _ h => h) (Or.inl ⟨by rfl, ?_⟩) hHeld ?_
                rotate_left 1
                · intro W hSw
                  (try dsimp only at hSw)
                  go_simp
                  try with_reducible rfl
                try simp only [Act.put, List.setIfInBounds_toArray, List.set_cons_zero, List.set_cons_succ]
                refine wpAnyH_take (i := 12) (oi := { dst := some 44, op := Op.load 67 (Operand.tmp 6), type := 67, pos := "law.go:31", after := #[{ on := 8, ground := Ground.guard }], guard := some (8, false) }) (v := ?_) rfl (by kernel_rfl) (by kernel_rfl) (by kernel_rfl) (fun _ _ _ h => h) (Or.inl ⟨by rfl, ?_⟩) hHeld ?_
                rotate_left 1
                · intro W hSw
                  (try dsimp only at hSw)
                  go_simp
                  try with_reducible rfl
                try simp only [Act.put, List.setIfInBounds_toArray, List.set_cons_zero, List.set_cons_succ]
                refine wpAnyH_take (i := 13) (oi := { dst := some 45, op := Op.move (Operand.tmp 4), type := 3, pos := "law.go:31", after := #[{ on := 8, ground := Ground.guard }], guard := some (8, false) }) (v := ?_) rfl (by kernel_rfl) (by kernel_rfl) (by kernel_rfl) (fun _ _ _ h => h) (Or.inl ⟨by rfl, ?_⟩) hHeld ?_
                rotate_left 1
                · intro W hSw
                  (try dsimp only at hSw)
                  go_simp
                  try with_reducible rfl
                try simp only [Act.put, List.setIfInBounds_toArray, List.set_cons_zero, List.set_cons_succ]
                refine wpAnyH_ready (rs := [11]) (by kernel_rfl) (by simp) ?_
                refine AllReadyH.cons (o := { dst := some 43, op := Op.call { callee := Callee.value (Operand.func 39), args := #[Operand.tmp 41, Operand.tmp 42], argTypes := #[67, 3] }, type := 4, pos := "law.go:31", after := #[{ on := 9, ground := Ground.data }, { on := 10, ground := Ground.data }, { on := 8, ground := Ground.chain }, { on := 8, ground := Ground.guard }], guard := some (8, false) }) rfl (fun K7 hK7 => ?_) ?_
                · go_simp
                  refine (HE1.out _ _ _ _ HOc.out).mono ?_
                  rintro e V ⟨rfl, hb⟩
                  have HX := Lib.hid (HX.out.keep hb)
                  have HOc := Lib.hid (HOc.out.keep hb)
                  have HCx := Lib.hid (HCx.out.keep hb)
                  clear hb
                  obtain ⟨U, rfl⟩ : ∃ Z, Z = V := ⟨_, rfl⟩
                  try dsimp only
                  refine hK7.out _ _ (⟨HCx.out.cells, HX.out.A.cells, HX.out.pp.cells⟩) (fun hHeld => ?_)
                  clear hK7 K7
                  try simp only [Act.put, List.setIfInBounds_toArray, List.set_cons_zero, List.set_cons_succ]
                  refine wpAnyH_ready (rs := [14]) (by kernel_rfl) (by simp) ?_
                  refine AllReadyH.cons (o := { dst := some 46, op := Op.call { callee := Callee.value (Operand.func 40), args := #[Operand.tmp 44, Operand.tmp 45], argTypes := #[67, 3] }, type := 4, pos := "law.go:31", after := #[{ on := 12, ground := Ground.data }, { on := 13, ground := Ground.data }, { on := 11, ground := Ground.chain }, { on := 8, ground := Ground.guard }], guard := some (8, false) }) rfl (fun K7 hK7 => ?_) ?_
                  · go_simp
                    refine (HE2.out _ HX.out.bel).mono ?_
                    rintro e V ⟨rfl, hb⟩
                    have HX := Lib.hid (HX.out.keep hb)
                    have HOc := Lib.hid (HOc.out.keep hb)
                    have HCx := Lib.hid (HCx.out.keep hb)
                    clear hb
                    obtain ⟨U, rfl⟩ : ∃ Z, Z = V := ⟨_, rfl⟩
                    try dsimp only
                    refine hK7.out _ _ (⟨HCx.out.cells, HX.out.A.cells, HX.out.pp.cells⟩) (fun hHeld => ?_)
                    clear hK7 K7
                    try simp only [Act.put, List.setIfInBounds_toArray, List.set_cons_zero, List.set_cons_succ]
                    refine wpAnyH_take (i := 15) (oi := { dst := some 47, op := Op.binOp BinOp.neq 4 (Operand.tmp 43) (Operand.tmp 46) 4, type := 4, pos := "law.go:31", after := #[{ on := 11, ground := Ground.data }, { on := 14, ground := Ground.data }, { on := 8, ground := Ground.guard }], guard := some (8, false) }) (v := ?_) rfl (by kernel_rfl) (by kernel_rfl) (by kernel_rfl) (fun _ _ _ h => h) (Or.inl ⟨by rfl, ?_⟩) hHeld ?_
                    rotate_left 1
                    · intro W hSw
                      (try dsimp only at hSw)
                      go_simp
                      try with_reducible rfl
                    try simp only [Act.put, List.setIfInBounds_toArray, List.set_cons_zero, List.set_cons_succ]
                    refine wpAnyH_take (i := 16) (oi := { dst := some 48, op := Op.pick (Operand.tmp 40) (Operand.const (Value.bool true)) (Operand.tmp 47), type := 4, pos := "law.go:31", after := #[{ on := 8, ground := Ground.data }, { on := 15, ground := Ground.data }], guard := none }) (v := ?_) rfl (by kernel_rfl) (by kernel_rfl) (by kernel_rfl) (fun _ _ _ h => h) (Or.inl ⟨by rfl, ?_⟩) hHeld ?_
                    rotate_left 1
                    · intro W hSw
                      (try dsimp only at hSw)
                      go_simp
                      try with_reducible rfl
                    try simp only [Act.put, List.setIfInBounds_toArray, List.set_cons_zero, List.set_cons_succ]
                    refine wpAnyH_done (by kernel_rfl) ?_ _
                    clear hHeld
                    clear HO1 HO2
                    obtain ⟨m0, m1, m2, m3, m4, m5, m6⟩ := HCx.out.cells
                    go_upto_region 9 with (go_at_call 41; refine (HP1.out _ _ _ _ HOc.out).mono ?_; rintro e V ⟨rfl, hb⟩; have HX := Lib.hid (HX.out.keep hb); have HOc := Lib.hid (HOc.out.keep hb); have HCx := Lib.hid (HCx.out.keep hb); clear hb m0 m1 m2 m3 m4 m5 m6)
                    obtain ⟨m0, m1, m2, m3, m4, m5, m6⟩ := HX.out.A.cells
                    go_upto_region 10 with (go_at_call 42; refine (HP2.out _ HX.out.bel).mono ?_; rintro e V2 ⟨rfl, hb⟩; have HX := Lib.hid (HX.out.keep hb); have HOc := Lib.hid (HOc.out.keep hb); have HCx := Lib.hid (HCx.out.keep hb); clear hb m0 m1 m2 m3 m4 m5 m6)
                    obtain ⟨m0, m1, m2, m3, m4, m5, m6⟩ := HX.out.A.cells
                    obtain ⟨n0, n1, n2, n3, n4, n5, n6⟩ := HCx.out.cells
                    go_wp2_with (first
                      | (go_at_call 36; refine (HS3.out _ _ _ _ HOc.out HX.out.bel).mono ?_; rintro e V3 ⟨rfl, hb⟩; have HX := Lib.hid (HX.out.keep hb); clear hb m0 m1 m2 m3 m4 m5 m6 n0 n1 n2 n3 n4 n5 n6)
                      | (go_at_call 30; refine (HAw.out _).mono ?_; rintro e V4 ⟨rfl, hb⟩; have HX := Lib.hid (HX.out.keep hb); clear hb))
                    go_ret
                    exact ⟨rfl, HX.out.bel⟩
                  exact AllReadyH.nil
                exact AllReadyH.nil
              exact AllReadyH.nil
            exact AllReadyH.nil
          exact AllReadyH.nil
      exact AllReadyH.nil
    exact AllReadyH.nil
  exact AllReadyH.nil
  --R1E
end Go.Proofs.Ytmdipcemhaomhaa.crush
