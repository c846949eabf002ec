/- LeadDoes (P16.6 to P16.8): the law's walk. -/
import Derived.Test.YtcofmfjhgbihkaaRows
import Derived.Test.YtcofmfjhgbihkaaLeadRWait
import Derived.Test.YtcofmfjhgbihkaaLeadRProp
import Derived.Test.YtcofmfjhgbihkaaLeadRAck
import Derived.Test.YtcofmfjhgbihkaaLeadRSame
import Derived.Test.YtcofmfjhgbihkaaLeadRises
import Derived.Test.YtcofmfjhgbihkaaLeadAwake
namespace Go.Proofs.Ytcofmfjhgbihkaa.crush
open Go.RowKit
open Go.Proofs.Ytcofmfjhgbihkaa.kit Go.Proofs.Ytcofmfjhgbihkaa.own
set_option linter.unusedVariables false
set_option linter.unusedSimpArgs false

/-- The boxes of the law. -/
structure DdB (w : World) (N : Nat) (l : LeadV) (s t : Value) (m : LeadV) (s' t' : Value) (W : World) : Prop where
  bel : Below w.heap.size w W
  A : LBox W N l.st l.r l.m s l.has l.val t
  M : LBox W (N + 1) m.st m.r m.m s' m.has m.val t'
theorem DdB.keep {w : World} {N : Nat} {l : LeadV} {s t : Value} {m : LeadV} {s' t' : Value} {W W' : World} (h : DdB w N l s t m s' t' W) (hb : Below W.heap.size W W') : DdB w N l s t m s' t' W' :=
  ⟨h.bel.trans (hb.mono h.bel.size), h.A.keep hb, h.M.keep hb⟩

set_option maxHeartbeats 32000000 in
set_option maxRecDepth 100000 in
theorem walkDoesL (v v' : Value) (l m : LeadV) (x : ByteArray) (mon mons : Int) (w : World) (h : LdR w v l) (hq : LdQ v l) (hl : l.Small) (h' : LdR w v' m) (hm : I64 mons) :
    Calls Try.prog 3 #[v, v', .string x, .int .i64 mon, .int .i64 mons] w fun e w' => e = .returned (.bool true) ∧ Below w.heap.size w w' := by
  have HQ := Lib.hid hq
  obtain ⟨sa, sc, ta, tc, rfl, hcs, hct⟩ := hq
  have HLd := Lib.hid (fun u (hu : Below w.heap.size w u) => h.keep hu)
  have HMd := Lib.hid (fun u (hu : Below w.heap.size w u) => h'.keep hu)
  have HY1 := Lib.hid (fun u (hu : Below w.heap.size w u) => SameL_any _ _ l m u (HLd.out u hu) (HMd.out u hu))
  have HY2 := Lib.hid (fun u (hu : Below w.heap.size w u) => rSameL_any _ _ l m u (HLd.out u hu) (HMd.out u hu))
  have HY3 := Lib.hid (fun B s t u (h1 : LdO u B s t l) (hu : Below w.heap.size w u) => (SameL_any _ (l.agg s t) l l u (HLd.out u hu) h1.read).mono (fun e w' h => (show e = .returned (.bool true) ∧ Below u.heap.size u w' from ⟨by rw [h.1, sameB_self], h.2⟩)))
  have HS2 := Lib.hid (fun x B C s t s' t' u (h1 : LdO u B s t x) (h2 : LdO u C s' t' x) => (rSameL_any (x.agg s t) (x.agg s' t') x x u h1.read h2.read).mono (fun e w' h => (show e = .returned (.bool true) ∧ Below u.heap.size u w' from ⟨by rw [h.1, sameB_self], h.2⟩)))
  have HS3 := Lib.hid (fun B s t u (h1 : LdO u B s t l) (hu : Below w.heap.size w u) => (rSameL_any (l.agg s t) _ l l u h1.read (HLd.out u hu)).mono (fun e w' h => (show e = .returned (.bool true) ∧ Below u.heap.size u w' from ⟨by rw [h.1, sameB_self], h.2⟩)))
  have HRs := Lib.hid (fun u (hu : Below w.heap.size w u) => rRises_any _ l u (HLd.out u hu) hl)
  have HCp := Lib.hid (fun u (hu : Below w.heap.size w u) => rCopyL_any _ l u (HLd.out u hu) hl)
  have HL1 := Lib.hid (fun B s t u (h1 : LdO u B s t l) => Lead_any (l.agg s t) l u h1.read)
  have HL2 := Lib.hid (fun u (hu : Below w.heap.size w u) => rLead_any _ l u (HLd.out u hu))
  have HP1 := Lib.hid (fun B s t u (h1 : LdO u B s t l) => Propose_any (l.agg s t) l x mon u h1.read hl)
  have HP2 := Lib.hid (fun u (hu : Below w.heap.size w u) => rPropose_any _ l x mon u (HLd.out u hu) hl)
  have HA1 := Lib.hid (fun B s t u (h1 : LdO u B s t l) (hr : Ris (fun z => z) l.ak) => Ack_any (l.agg s t) l mon u h1.read hl (fun _ => hr))
  have HA2 := Lib.hid (fun u (hu : Below w.heap.size w u) => rAck_any _ l mon u (HLd.out u hu) HQ.out hl)
  have HD1 := Lib.hid (fun B s t u (h1 : LdO u B s t l) => Done_any (l.agg s t) l u h1.read hl)
  have HD2 := Lib.hid (fun u (hu : Below w.heap.size w u) => rDone_any _ l u (HLd.out u hu) hl)
  have HC1 := Lib.hid (fun B s t u (h1 : LdO u B s t l) => Chosen_any (l.agg s t) l mons u h1.read hm)
  have HC2 := Lib.hid (fun u (hu : Below w.heap.size w u) => rChosen_any _ l mons u (HLd.out u hu) hm)
  have HW1 := Lib.hid (fun B s t u (h1 : LdO u B s t l) (hr : Ris PromV.mon l.ps) (hk : Ris (fun z => z) l.ak) => Wait_any (l.agg s t) l mons u h1.read hr hk hl)
  have HW2 := Lib.hid (fun u (hu : Below w.heap.size w u) => rWait_any _ l mons u (HLd.out u hu) hl)
  have HAw := Lib.hid (fun u => awakeL_any u)
  have HWl := Lib.hid (show (l.wait mons).length ≤ 64 by rw [wait_absT]; have := absT_len l.there (min mons 64).toNat; omega)
  generalize sameB l m = sm at HY1 HY2
  generalize l.lead = dl at HL1 HL2
  generalize l.propose x mon = dp at HP1 HP2
  generalize l.ack mon = da at HA1 HA2
  generalize l.done = dd at HD1 HD2
  generalize l.chosen mons = dc at HC1 HC2
  generalize l.wait mons = ys at HW1 HW2 HWl
  obtain ⟨s', t', rfl, hs', ht'⟩ := h'
  obtain ⟨ua, uc, rfl⟩ := hs'.slice
  obtain ⟨va, vc, rfl⟩ := ht'.slice
  unfold RowS at HW1 HW2
  unfold LdS LeadV.agg at HCp HL1 HL2 HP1 HP2 HA1 HA2 HD1 HD2
  unfold LeadV.agg at HY1 HY2 HY3 HS2 HS3 HRs HC1 HC2 HW1 HW2
  unfold RisS at HRs
  clear h hl hm hcs hct HLd HMd HQ hs' ht'
  unfold LeadV.agg
  have HX : Hid (DdB w w.heap.size l (.slice sa l.ps.length sc) (.slice ta l.ak.length tc) m (.slice ua m.ps.length uc) (.slice va m.ak.length vc) ((w.alloc (.cells #[.int .i64 l.st, .int .i64 l.r, .int .i64 l.m, .slice sa l.ps.length sc, .bool l.has, .string l.val, .slice ta l.ak.length tc] 27)).alloc (.cells #[.int .i64 m.st, .int .i64 m.r, .int .i64 m.m, .slice ua m.ps.length uc, .bool m.has, .string m.val, .slice va m.ak.length vc] 27))) := by
    have b1 := below_new w (.cells #[.int .i64 l.st, .int .i64 l.r, .int .i64 l.m, .slice sa l.ps.length sc, .bool l.has, .string l.val, .slice ta l.ak.length tc] 27)
    have b2 := below_new (w.alloc (.cells #[.int .i64 l.st, .int .i64 l.r, .int .i64 l.m, .slice sa l.ps.length sc, .bool l.has, .string l.val, .slice ta l.ak.length tc] 27)) (.cells #[.int .i64 m.st, .int .i64 m.r, .int .i64 m.m, .slice ua m.ps.length uc, .bool m.has, .string m.val, .slice va m.ak.length vc] 27)
    have x1 := lbox_new w l.st l.r l.m (.slice sa l.ps.length sc) l.has l.val (.slice ta l.ak.length tc)
    have x2 := lbox_new (w.alloc (.cells #[.int .i64 l.st, .int .i64 l.r, .int .i64 l.m, .slice sa l.ps.length sc, .bool l.has, .string l.val, .slice ta l.ak.length tc] 27)) m.st m.r m.m (.slice ua m.ps.length uc) m.has m.val (.slice va m.ak.length vc)
    rw [World.size_alloc] at x2
    exact Lib.hid ⟨b1.trans (b2.mono b1.size), x1.keep b2, x2⟩
  go_enter Try.func3, Try.ntmps3
  go_upto_region 1 with fail
  generalize ((w.alloc (.cells #[.int .i64 l.st, .int .i64 l.r, .int .i64 l.m, .slice sa l.ps.length sc, .bool l.has, .string l.val, .slice ta l.ak.length tc] 27)).alloc (.cells #[.int .i64 m.st, .int .i64 m.r, .int .i64 m.m, .slice ua m.ps.length uc, .bool m.has, .string m.val, .slice va m.ak.length vc] 27)) = U at HX ⊢
  have HX := Lib.hid (HX.out.keep (below_drew (Below.refl _ _)))
  --R1
  refine wp_region_held_drew (S := fun u => (u.cell? ⟨w.heap.size, 0, none⟩ = some (.int .i64 l.st) ∧ u.cell? ⟨w.heap.size, 1, none⟩ = some (.int .i64 l.r) ∧ u.cell? ⟨w.heap.size, 2, none⟩ = some (.int .i64 l.m) ∧ u.cell? ⟨w.heap.size, 3, none⟩ = some (.slice sa l.ps.length sc) ∧ u.cell? ⟨w.heap.size, 4, none⟩ = some (.bool l.has) ∧ u.cell? ⟨w.heap.size, 5, none⟩ = some (.string l.val) ∧ u.cell? ⟨w.heap.size, 6, none⟩ = some (.slice ta l.ak.length tc)) ∧ (u.cell? ⟨w.heap.size + 1, 0, none⟩ = some (.int .i64 m.st) ∧ u.cell? ⟨w.heap.size + 1, 1, none⟩ = some (.int .i64 m.r) ∧ u.cell? ⟨w.heap.size + 1, 2, none⟩ = some (.int .i64 m.m) ∧ u.cell? ⟨w.heap.size + 1, 3, none⟩ = some (.slice ua m.ps.length uc) ∧ u.cell? ⟨w.heap.size + 1, 4, none⟩ = some (.bool m.has) ∧ u.cell? ⟨w.heap.size + 1, 5, none⟩ = some (.string m.val) ∧ u.cell? ⟨w.heap.size + 1, 6, none⟩ = some (.slice va m.ak.length vc))) (by kernel_rfl) (⟨HX.out.A.cells, HX.out.M.cells⟩) (fun hHeld => ?_)
  generalize U.drew = U at *
  refine wpAnyH_take (i := 0) (oi := { dst := some 15, op := Op.load 27 (Operand.tmp 5), type := 27, pos := "law.go:41", after := #[], guard := none }) (v := ?_) rfl (by kernel_rfl) (by kernel_rfl) (by kernel_rfl) (fun _ _ _ h => h) (Or.inl ⟨by rfl, ?_⟩) hHeld ?_
  rotate_left 1
  · intro W hSw
    (try dsimp only at hSw)
    go_simp
    try with_reducible rfl
  try simp only [Act.put, List.setIfInBounds_toArray, List.set_cons_zero, List.set_cons_succ]
  refine wpAnyH_take (i := 1) (oi := { dst := some 16, op := Op.load 27 (Operand.tmp 6), type := 27, pos := "law.go:41", after := #[], guard := none }) (v := ?_) rfl (by kernel_rfl) (by kernel_rfl) (by kernel_rfl) (fun _ _ _ h => h) (Or.inl ⟨by rfl, ?_⟩) hHeld ?_
  rotate_left 1
  · intro W hSw
    (try dsimp only at hSw)
    go_simp
    try with_reducible rfl
  try simp only [Act.put, List.setIfInBounds_toArray, List.set_cons_zero, List.set_cons_succ]
  refine wpAnyH_take (i := 3) (oi := { dst := some 18, op := Op.load 27 (Operand.tmp 5), type := 27, pos := "law.go:41", after := #[], guard := none }) (v := ?_) rfl (by kernel_rfl) (by kernel_rfl) (by kernel_rfl) (fun _ _ _ h => h) (Or.inl ⟨by rfl, ?_⟩) hHeld ?_
  rotate_left 1
  · intro W hSw
    (try dsimp only at hSw)
    go_simp
    try with_reducible rfl
  try simp only [Act.put, List.setIfInBounds_toArray, List.set_cons_zero, List.set_cons_succ]
  refine wpAnyH_take (i := 4) (oi := { dst := some 19, op := Op.load 27 (Operand.tmp 6), type := 27, pos := "law.go:41", after := #[], guard := none }) (v := ?_) rfl (by kernel_rfl) (by kernel_rfl) (by kernel_rfl) (fun _ _ _ h => h) (Or.inl ⟨by rfl, ?_⟩) hHeld ?_
  rotate_left 1
  · intro W hSw
    (try dsimp only at hSw)
    go_simp
    try with_reducible rfl
  try simp only [Act.put, List.setIfInBounds_toArray, List.set_cons_zero, List.set_cons_succ]
  refine wpAnyH_ready (rs := [2]) (by kernel_rfl) (by simp) ?_
  refine AllReadyH.cons (o := { dst := some 17, op := Op.call { callee := Callee.value (Operand.func 9), args := #[Operand.tmp 15, Operand.tmp 16], argTypes := #[27, 27] }, type := 4, pos := "law.go:41", after := #[{ on := 0, ground := Ground.data }, { on := 1, ground := Ground.data }], guard := none }) rfl (fun K7 hK7 => ?_) ?_
  · go_simp
    refine (HY1.out _ HX.out.bel).mono ?_
    rintro e V ⟨rfl, hb⟩
    have HX := Lib.hid (HX.out.keep hb)
    clear hb
    obtain ⟨U, rfl⟩ : ∃ Z, Z = V := ⟨_, rfl⟩
    try dsimp only
    refine hK7.out _ _ (⟨HX.out.A.cells, HX.out.M.cells⟩) (fun hHeld => ?_)
    clear hK7 K7
    try simp only [Act.put, List.setIfInBounds_toArray, List.set_cons_zero, List.set_cons_succ]
    refine wpAnyH_ready (rs := [5]) (by kernel_rfl) (by simp) ?_
    refine AllReadyH.cons (o := { dst := some 20, op := Op.call { callee := Callee.value (Operand.func 10), args := #[Operand.tmp 18, Operand.tmp 19], argTypes := #[27, 27] }, type := 4, pos := "law.go:41", after := #[{ on := 3, ground := Ground.data }, { on := 4, ground := Ground.data }, { on := 2, ground := Ground.chain }], guard := none }) rfl (fun K7 hK7 => ?_) ?_
    · go_simp
      refine (HY2.out _ HX.out.bel).mono ?_
      rintro e V ⟨rfl, hb⟩
      have HX := Lib.hid (HX.out.keep hb)
      clear hb
      obtain ⟨U, rfl⟩ : ∃ Z, Z = V := ⟨_, rfl⟩
      try dsimp only
      refine hK7.out _ _ (⟨HX.out.A.cells, HX.out.M.cells⟩) (fun hHeld => ?_)
      clear hK7 K7
      try simp only [Act.put, List.setIfInBounds_toArray, List.set_cons_zero, List.set_cons_succ]
      refine wpAnyH_take (i := 6) (oi := { dst := some 21, op := Op.binOp BinOp.neq 4 (Operand.tmp 17) (Operand.tmp 20) 4, type := 4, pos := "law.go:41", after := #[{ on := 2, ground := Ground.data }, { on := 5, ground := Ground.data }], guard := none }) (v := ?_) rfl (by kernel_rfl) (by kernel_rfl) (by kernel_rfl) (fun _ _ _ h => h) (Or.inl ⟨by rfl, ?_⟩) hHeld ?_
      rotate_left 1
      · intro W hSw
        (try dsimp only at hSw)
        go_simp
        try with_reducible rfl
      try simp only [Act.put, List.setIfInBounds_toArray, List.set_cons_zero, List.set_cons_succ]
      refine wpAnyH_take (i := 7) (oi := { dst := some 22, op := Op.move (Operand.tmp 21), type := 4, pos := "law.go:41", after := #[{ on := 6, ground := Ground.data }, { on := 5, ground := Ground.chain }], guard := none }) (v := ?_) rfl (by kernel_rfl) (by kernel_rfl) (by kernel_rfl) (fun _ _ _ h => h) (Or.inl ⟨by rfl, ?_⟩) hHeld ?_
      rotate_left 1
      · intro W hSw
        (try dsimp only at hSw)
        go_simp
        try with_reducible rfl
      try simp only [Act.put, List.setIfInBounds_toArray, List.set_cons_zero, List.set_cons_succ]
      refine wpAnyH_take (i := 8) (oi := { dst := some 23, op := Op.load 27 (Operand.tmp 5), type := 27, pos := "law.go:41", after := #[{ on := 7, ground := Ground.guard }], guard := some (7, false) }) (v := ?_) rfl (by kernel_rfl) (by kernel_rfl) (by kernel_rfl) (fun _ _ _ h => h) (Or.inl ⟨by rfl, ?_⟩) hHeld ?_
      rotate_left 1
      · intro W hSw
        (try dsimp only at hSw)
        go_simp
        try with_reducible rfl
      try simp only [Act.put, List.setIfInBounds_toArray, List.set_cons_zero, List.set_cons_succ]
      refine wpAnyH_take (i := 9) (oi := { dst := some 24, op := Op.load 27 (Operand.tmp 5), type := 27, pos := "law.go:41", after := #[{ on := 7, ground := Ground.guard }], guard := some (7, false) }) (v := ?_) rfl (by kernel_rfl) (by kernel_rfl) (by kernel_rfl) (fun _ _ _ h => h) (Or.inl ⟨by rfl, ?_⟩) hHeld ?_
      rotate_left 1
      · intro W hSw
        (try dsimp only at hSw)
        go_simp
        try with_reducible rfl
      try simp only [Act.put, List.setIfInBounds_toArray, List.set_cons_zero, List.set_cons_succ]
      refine wpAnyH_ready (rs := [10]) (by kernel_rfl) (by simp) ?_
      refine AllReadyH.cons (o := { dst := some 25, op := Op.call { callee := Callee.value (Operand.func 11), args := #[Operand.tmp 24], argTypes := #[27] }, type := 27, pos := "law.go:41", after := #[{ on := 9, ground := Ground.data }, { on := 7, ground := Ground.chain }, { on := 7, ground := Ground.guard }], guard := some (7, false) }) rfl (fun K7 hK7 => ?_) ?_
      · go_simp
        refine (HCp.out _ HX.out.bel).mono ?_
        rintro e V ⟨s2, t2, rfl, ho, hb⟩
        obtain ⟨h1, h2, rfl⟩ := ho.1.slice
        obtain ⟨h3, h4, rfl⟩ := ho.2.slice
        have HO2 := Lib.hid ho
        clear ho
        have HX := Lib.hid (HX.out.keep hb)
        clear hb
        obtain ⟨U, rfl⟩ : ∃ Z, Z = V := ⟨_, rfl⟩
        try dsimp only
        refine hK7.out _ _ (⟨HX.out.A.cells, HX.out.M.cells⟩) (fun hHeld => ?_)
        clear hK7 K7
        try simp only [Act.put, List.setIfInBounds_toArray, List.set_cons_zero, List.set_cons_succ]
        refine wpAnyH_ready (rs := [11]) (by kernel_rfl) (by simp) ?_
        refine AllReadyH.cons (o := { dst := some 26, op := Op.call { callee := Callee.value (Operand.func 9), args := #[Operand.tmp 23, Operand.tmp 25], argTypes := #[27, 27] }, type := 4, pos := "law.go:41", after := #[{ on := 8, ground := Ground.data }, { on := 10, ground := Ground.data }, { on := 10, ground := Ground.chain }, { on := 7, ground := Ground.guard }], guard := some (7, false) }) rfl (fun K7 hK7 => ?_) ?_
        · go_simp
          refine (HY3.out _ _ _ _ HO2.out HX.out.bel).mono ?_
          rintro e V ⟨rfl, hb⟩
          have HX := Lib.hid (HX.out.keep hb)
          clear hb
          obtain ⟨U, rfl⟩ : ∃ Z, Z = V := ⟨_, rfl⟩
          try dsimp only
          refine hK7.out _ _ (⟨HX.out.A.cells, HX.out.M.cells⟩) (fun hHeld => ?_)
          clear hK7 K7
          try simp only [Act.put, List.setIfInBounds_toArray, List.set_cons_zero, List.set_cons_succ]
          refine wpAnyH_take (i := 12) (oi := { dst := some 27, op := Op.unOp UnOp.not 4 (Operand.tmp 26), type := 4, pos := "law.go:41", after := #[{ on := 11, ground := Ground.data }, { on := 7, ground := Ground.guard }], guard := some (7, false) }) (v := ?_) rfl (by kernel_rfl) (by kernel_rfl) (by kernel_rfl) (fun _ _ _ h => h) (Or.inl ⟨by rfl, ?_⟩) hHeld ?_
          rotate_left 1
          · intro W hSw
            (try dsimp only at hSw)
            go_simp
            try with_reducible rfl
          try simp only [Act.put, List.setIfInBounds_toArray, List.set_cons_zero, List.set_cons_succ]
          refine wpAnyH_take (i := 13) (oi := { dst := some 28, op := Op.pick (Operand.tmp 22) (Operand.const (Value.bool true)) (Operand.tmp 27), type := 4, pos := "law.go:41", after := #[{ on := 7, ground := Ground.data }, { on := 12, ground := Ground.data }], guard := none }) (v := ?_) rfl (by kernel_rfl) (by kernel_rfl) (by kernel_rfl) (fun _ _ _ h => h) (Or.inl ⟨by rfl, ?_⟩) hHeld ?_
          rotate_left 1
          · intro W hSw
            (try dsimp only at hSw)
            go_simp
            try with_reducible rfl
          try simp only [Act.put, List.setIfInBounds_toArray, List.set_cons_zero, List.set_cons_succ]
          refine wpAnyH_done (by kernel_rfl) ?_ _
          clear hHeld
          clear HO2
          obtain ⟨m0, m1, m2, m3, m4, m5, m6⟩ := HX.out.A.cells
          go_upto_region 4 with (go_at_call 12; refine (HRs.out _ HX.out.bel).mono ?_; rintro e V ⟨q, rfl, hq, hb⟩; have HQ := Lib.hid hq; have HX := Lib.hid (HX.out.keep hb); clear hb hq m0 m1 m2 m3 m4 m5 m6; obtain ⟨m0, m1, m2, m3, m4, m5, m6⟩ := HX.out.A.cells; cases q)
          next =>
            clear m0 m1 m2 m3 m4 m5 m6
            go_wp2_with (go_at_call 13; refine (HAw.out _).mono ?_; rintro e w2 ⟨rfl, hb⟩; have HX := Lib.hid (HX.out.keep hb); clear hb)
            go_ret
            exact ⟨rfl, HX.out.bel⟩
          next =>
            have HRi : Hid (Ris PromV.mon l.ps ∧ Ris (fun z => z) l.ak) := Lib.hid (by first | exact (HQ.out rfl) | exact (HQ.out trivial) | exact HQ.out)
            go_upto_region 6 with (go_at_call 11; refine (HCp.out _ HX.out.bel).mono ?_; rintro e w5 ⟨s5, t5, rfl, ho, hb⟩; obtain ⟨a5, c5, rfl⟩ := ho.1.slice; obtain ⟨b5, d5, rfl⟩ := ho.2.slice; have HOc := Lib.hid (ho.mono (Nat.zero_le _)); have HX := Lib.hid (HX.out.keep hb); clear ho hb m0 m1 m2 m3 m4 m5 m6)
            have hbn := below_new w5 (.cells #[.int .i64 l.st, .int .i64 l.r, .int .i64 l.m, .slice a5 l.ps.length c5, .bool l.has, .string l.val, .slice b5 l.ak.length d5] 27)
            have HX := Lib.hid (HX.out.keep hbn)
            have HOc := Lib.hid (HOc.out.keep hbn)
            have HCx := Lib.hid (lbox_new w5 l.st l.r l.m (.slice a5 l.ps.length c5) l.has l.val (.slice b5 l.ak.length d5))
            clear hbn
            generalize w5.alloc _ = U6 at HX HOc HCx ⊢
            generalize w5.heap.size = K at HCx ⊢
            obtain ⟨U, rfl⟩ : ∃ Z, Z = U6 := ⟨_, rfl⟩
            have HX := Lib.hid (HX.out.keep (below_drew (Below.refl _ _)))
            have HOc := Lib.hid (HOc.out.keep (below_drew (Below.refl _ _)))
            have HCx := Lib.hid (HCx.out.keep (below_drew (Below.refl _ _)))
            refine wp_region_held_drew (S := fun u => (u.cell? ⟨K, 0, none⟩ = some (.int .i64 l.st) ∧ u.cell? ⟨K, 1, none⟩ = some (.int .i64 l.r) ∧ u.cell? ⟨K, 2, none⟩ = some (.int .i64 l.m) ∧ u.cell? ⟨K, 3, none⟩ = some (.slice a5 l.ps.length c5) ∧ u.cell? ⟨K, 4, none⟩ = some (.bool l.has) ∧ u.cell? ⟨K, 5, none⟩ = some (.string l.val) ∧ u.cell? ⟨K, 6, none⟩ = some (.slice b5 l.ak.length d5)) ∧ (u.cell? ⟨w.heap.size, 0, none⟩ = some (.int .i64 l.st) ∧ u.cell? ⟨w.heap.size, 1, none⟩ = some (.int .i64 l.r) ∧ u.cell? ⟨w.heap.size, 2, none⟩ = some (.int .i64 l.m) ∧ u.cell? ⟨w.heap.size, 3, none⟩ = some (.slice sa l.ps.length sc) ∧ u.cell? ⟨w.heap.size, 4, none⟩ = some (.bool l.has) ∧ u.cell? ⟨w.heap.size, 5, none⟩ = some (.string l.val) ∧ u.cell? ⟨w.heap.size, 6, none⟩ = some (.slice ta l.ak.length tc))) (by kernel_rfl) (⟨HCx.out.cells, HX.out.A.cells⟩) (fun hHeld => ?_)
            generalize U.drew = U at *
            refine wpAnyH_take (i := 0) (oi := { dst := some 35, op := Op.load 27 (Operand.tmp 11), type := 27, pos := "law.go:48", after := #[], guard := none }) (v := ?_) rfl (by kernel_rfl) (by kernel_rfl) (by kernel_rfl) (fun _ _ _ h => h) (Or.inl ⟨by rfl, ?_⟩) hHeld ?_
            rotate_left 1
            · intro W hSw
              (try dsimp only at hSw)
              go_simp
              try with_reducible rfl
            try simp only [Act.put, List.setIfInBounds_toArray, List.set_cons_zero, List.set_cons_succ]
            refine wpAnyH_take (i := 2) (oi := { dst := some 37, op := Op.load 27 (Operand.tmp 5), type := 27, pos := "law.go:48", after := #[], guard := none }) (v := ?_) rfl (by kernel_rfl) (by kernel_rfl) (by kernel_rfl) (fun _ _ _ h => h) (Or.inl ⟨by rfl, ?_⟩) hHeld ?_
            rotate_left 1
            · intro W hSw
              (try dsimp only at hSw)
              go_simp
              try with_reducible rfl
            try simp only [Act.put, List.setIfInBounds_toArray, List.set_cons_zero, List.set_cons_succ]
            refine wpAnyH_ready (rs := [1]) (by kernel_rfl) (by simp) ?_
            refine AllReadyH.cons (o := { dst := some 36, op := Op.call { callee := Callee.value (Operand.func 14), args := #[Operand.tmp 35], argTypes := #[27] }, type := 27, pos := "law.go:48", after := #[{ on := 0, ground := Ground.data }], guard := none }) rfl (fun K7 hK7 => ?_) ?_
            · go_simp
              refine (HL1.out _ _ _ _ HOc.out).mono ?_
              rintro e V ⟨s1, t1, rfl, ho, hb⟩
              obtain ⟨g1, g2, rfl⟩ := ho.1.slice
              obtain ⟨g3, g4, rfl⟩ := ho.2.slice
              have HO1 := Lib.hid ho
              clear ho
              have HX := Lib.hid (HX.out.keep hb)
              have HOc := Lib.hid (HOc.out.keep hb)
              have HCx := Lib.hid (HCx.out.keep hb)
              clear hb
              obtain ⟨U, rfl⟩ : ∃ Z, Z = V := ⟨_, rfl⟩
              try dsimp only
              refine hK7.out _ _ (⟨HCx.out.cells, HX.out.A.cells⟩) (fun hHeld => ?_)
              clear hK7 K7
              try simp only [Act.put, List.setIfInBounds_toArray, List.set_cons_zero, List.set_cons_succ]
              refine wpAnyH_ready (rs := [3]) (by kernel_rfl) (by simp) ?_
              refine AllReadyH.cons (o := { dst := some 38, op := Op.call { callee := Callee.value (Operand.func 15), args := #[Operand.tmp 37], argTypes := #[27] }, type := 27, pos := "law.go:48", after := #[{ on := 2, ground := Ground.data }, { on := 1, ground := Ground.chain }], guard := none }) rfl (fun K7 hK7 => ?_) ?_
              · go_simp
                refine (HL2.out _ HX.out.bel).mono ?_
                rintro e V ⟨s2, t2, rfl, ho, hb⟩
                obtain ⟨h1, h2, rfl⟩ := ho.1.slice
                obtain ⟨h3, h4, rfl⟩ := ho.2.slice
                have HO1 := Lib.hid (HO1.out.keep hb)
                have HO2 := Lib.hid ho
                clear ho
                have HX := Lib.hid (HX.out.keep hb)
                have HOc := Lib.hid (HOc.out.keep hb)
                have HCx := Lib.hid (HCx.out.keep hb)
                clear hb
                obtain ⟨U, rfl⟩ : ∃ Z, Z = V := ⟨_, rfl⟩
                try dsimp only
                refine hK7.out _ _ (⟨HCx.out.cells, HX.out.A.cells⟩) (fun hHeld => ?_)
                clear hK7 K7
                try simp only [Act.put, List.setIfInBounds_toArray, List.set_cons_zero, List.set_cons_succ]
                refine wpAnyH_ready (rs := [4]) (by kernel_rfl) (by simp) ?_
                refine AllReadyH.cons (o := { dst := some 39, op := Op.call { callee := Callee.value (Operand.func 10), args := #[Operand.tmp 36, Operand.tmp 38], argTypes := #[27, 27] }, type := 4, pos := "law.go:48", after := #[{ on := 1, ground := Ground.data }, { on := 3, ground := Ground.data }, { on := 3, ground := Ground.chain }], guard := none }) rfl (fun K7 hK7 => ?_) ?_
                · go_simp
                  refine (HS2.out _ _ _ _ _ _ _ _ HO1.out HO2.out).mono ?_
                  rintro e V ⟨rfl, hb⟩
                  clear HO1 HO2
                  have HX := Lib.hid (HX.out.keep hb)
                  have HOc := Lib.hid (HOc.out.keep hb)
                  have HCx := Lib.hid (HCx.out.keep hb)
                  clear hb
                  obtain ⟨U, rfl⟩ : ∃ Z, Z = V := ⟨_, rfl⟩
                  try dsimp only
                  refine hK7.out _ _ (⟨HCx.out.cells, HX.out.A.cells⟩) (fun hHeld => ?_)
                  clear hK7 K7
                  try simp only [Act.put, List.setIfInBounds_toArray, List.set_cons_zero, List.set_cons_succ]
                  refine wpAnyH_take (i := 5) (oi := { dst := some 40, op := Op.unOp UnOp.not 4 (Operand.tmp 39), type := 4, pos := "law.go:48", after := #[{ on := 4, ground := Ground.data }], guard := none }) (v := ?_) rfl (by kernel_rfl) (by kernel_rfl) (by kernel_rfl) (fun _ _ _ h => h) (Or.inl ⟨by rfl, ?_⟩) hHeld ?_
                  rotate_left 1
                  · intro W hSw
                    (try dsimp only at hSw)
                    go_simp
                    try with_reducible rfl
                  try simp only [Act.put, List.setIfInBounds_toArray, List.set_cons_zero, List.set_cons_succ]
                  refine wpAnyH_take (i := 6) (oi := { dst := some 41, op := Op.move (Operand.tmp 40), type := 4, pos := "law.go:48", after := #[{ on := 5, ground := Ground.data }, { on := 4, ground := Ground.chain }], guard := none }) (v := ?_) rfl (by kernel_rfl) (by kernel_rfl) (by kernel_rfl) (fun _ _ _ h => h) (Or.inl ⟨by rfl, ?_⟩) hHeld ?_
                  rotate_left 1
                  · intro W hSw
                    (try dsimp only at hSw)
                    go_simp
                    try with_reducible rfl
                  try simp only [Act.put, List.setIfInBounds_toArray, List.set_cons_zero, List.set_cons_succ]
                  refine wpAnyH_take (i := 7) (oi := { dst := some 42, op := Op.load 27 (Operand.tmp 11), type := 27, pos := "law.go:48", after := #[{ on := 6, ground := Ground.guard }], guard := some (6, false) }) (v := ?_) rfl (by kernel_rfl) (by kernel_rfl) (by kernel_rfl) (fun _ _ _ h => h) (Or.inl ⟨by rfl, ?_⟩) hHeld ?_
                  rotate_left 1
                  · intro W hSw
                    (try dsimp only at hSw)
                    go_simp
                    try with_reducible rfl
                  try simp only [Act.put, List.setIfInBounds_toArray, List.set_cons_zero, List.set_cons_succ]
                  refine wpAnyH_take (i := 8) (oi := { dst := some 43, op := Op.move (Operand.tmp 2), type := 9, pos := "law.go:48", after := #[{ on := 6, ground := Ground.guard }], guard := some (6, false) }) (v := ?_) rfl (by kernel_rfl) (by kernel_rfl) (by kernel_rfl) (fun _ _ _ h => h) (Or.inl ⟨by rfl, ?_⟩) hHeld ?_
                  rotate_left 1
                  · intro W hSw
                    (try dsimp only at hSw)
                    go_simp
                    try with_reducible rfl
                  try simp only [Act.put, List.setIfInBounds_toArray, List.set_cons_zero, List.set_cons_succ]
                  refine wpAnyH_take (i := 9) (oi := { dst := some 44, op := Op.move (Operand.tmp 3), type := 3, pos := "law.go:48", after := #[{ on := 6, ground := Ground.guard }], guard := some (6, false) }) (v := ?_) rfl (by kernel_rfl) (by kernel_rfl) (by kernel_rfl) (fun _ _ _ h => h) (Or.inl ⟨by rfl, ?_⟩) hHeld ?_
                  rotate_left 1
                  · intro W hSw
                    (try dsimp only at hSw)
                    go_simp
                    try with_reducible rfl
                  try simp only [Act.put, List.setIfInBounds_toArray, List.set_cons_zero, List.set_cons_succ]
                  refine wpAnyH_take (i := 11) (oi := { dst := some 46, op := Op.load 27 (Operand.tmp 5), type := 27, pos := "law.go:48", after := #[{ on := 6, ground := Ground.guard }], guard := some (6, false) }) (v := ?_) rfl (by kernel_rfl) (by kernel_rfl) (by kernel_rfl) (fun _ _ _ h => h) (Or.inl ⟨by rfl, ?_⟩) hHeld ?_
                  rotate_left 1
                  · intro W hSw
                    (try dsimp only at hSw)
                    go_simp
                    try with_reducible rfl
                  try simp only [Act.put, List.setIfInBounds_toArray, List.set_cons_zero, List.set_cons_succ]
                  refine wpAnyH_take (i := 12) (oi := { dst := some 47, op := Op.move (Operand.tmp 2), type := 9, pos := "law.go:48", after := #[{ on := 6, ground := Ground.guard }], guard := some (6, false) }) (v := ?_) rfl (by kernel_rfl) (by kernel_rfl) (by kernel_rfl) (fun _ _ _ h => h) (Or.inl ⟨by rfl, ?_⟩) hHeld ?_
                  rotate_left 1
                  · intro W hSw
                    (try dsimp only at hSw)
                    go_simp
                    try with_reducible rfl
                  try simp only [Act.put, List.setIfInBounds_toArray, List.set_cons_zero, List.set_cons_succ]
                  refine wpAnyH_take (i := 13) (oi := { dst := some 48, op := Op.move (Operand.tmp 3), type := 3, pos := "law.go:48", after := #[{ on := 6, ground := Ground.guard }], guard := some (6, false) }) (v := ?_) rfl (by kernel_rfl) (by kernel_rfl) (by kernel_rfl) (fun _ _ _ h => h) (Or.inl ⟨by rfl, ?_⟩) hHeld ?_
                  rotate_left 1
                  · intro W hSw
                    (try dsimp only at hSw)
                    go_simp
                    try with_reducible rfl
                  try simp only [Act.put, List.setIfInBounds_toArray, List.set_cons_zero, List.set_cons_succ]
                  refine wpAnyH_ready (rs := [10]) (by kernel_rfl) (by simp) ?_
                  refine AllReadyH.cons (o := { dst := some 45, op := Op.call { callee := Callee.value (Operand.func 16), args := #[Operand.tmp 42, Operand.tmp 43, Operand.tmp 44], argTypes := #[27, 9, 3] }, type := 27, pos := "law.go:48", after := #[{ on := 7, ground := Ground.data }, { on := 8, ground := Ground.data }, { on := 9, ground := Ground.data }, { on := 6, ground := Ground.chain }, { on := 6, ground := Ground.guard }], guard := some (6, false) }) rfl (fun K7 hK7 => ?_) ?_
                  · go_simp
                    refine (HP1.out _ _ _ _ HOc.out).mono ?_
                    rintro e V ⟨s1, t1, rfl, ho, hb⟩
                    obtain ⟨g1, g2, rfl⟩ := ho.1.slice
                    obtain ⟨g3, g4, rfl⟩ := ho.2.slice
                    have HO1 := Lib.hid ho
                    clear ho
                    have HX := Lib.hid (HX.out.keep hb)
                    have HOc := Lib.hid (HOc.out.keep hb)
                    have HCx := Lib.hid (HCx.out.keep hb)
                    clear hb
                    obtain ⟨U, rfl⟩ : ∃ Z, Z = V := ⟨_, rfl⟩
                    try dsimp only
                    refine hK7.out _ _ (⟨HCx.out.cells, HX.out.A.cells⟩) (fun hHeld => ?_)
                    clear hK7 K7
                    try simp only [Act.put, List.setIfInBounds_toArray, List.set_cons_zero, List.set_cons_succ]
                    refine wpAnyH_ready (rs := [14]) (by kernel_rfl) (by simp) ?_
                    refine AllReadyH.cons (o := { dst := some 49, op := Op.call { callee := Callee.value (Operand.func 17), args := #[Operand.tmp 46, Operand.tmp 47, Operand.tmp 48], argTypes := #[27, 9, 3] }, type := 27, pos := "law.go:48", after := #[{ on := 11, ground := Ground.data }, { on := 12, ground := Ground.data }, { on := 13, ground := Ground.data }, { on := 10, ground := Ground.chain }, { on := 6, ground := Ground.guard }], guard := some (6, false) }) rfl (fun K7 hK7 => ?_) ?_
                    · go_simp
                      refine (HP2.out _ HX.out.bel).mono ?_
                      rintro e V ⟨s2, t2, rfl, ho, hb⟩
                      obtain ⟨h1, h2, rfl⟩ := ho.1.slice
                      obtain ⟨h3, h4, rfl⟩ := ho.2.slice
                      have HO1 := Lib.hid (HO1.out.keep hb)
                      have HO2 := Lib.hid ho
                      clear ho
                      have HX := Lib.hid (HX.out.keep hb)
                      have HOc := Lib.hid (HOc.out.keep hb)
                      have HCx := Lib.hid (HCx.out.keep hb)
                      clear hb
                      obtain ⟨U, rfl⟩ : ∃ Z, Z = V := ⟨_, rfl⟩
                      try dsimp only
                      refine hK7.out _ _ (⟨HCx.out.cells, HX.out.A.cells⟩) (fun hHeld => ?_)
                      clear hK7 K7
                      try simp only [Act.put, List.setIfInBounds_toArray, List.set_cons_zero, List.set_cons_succ]
                      refine wpAnyH_ready (rs := [15]) (by kernel_rfl) (by simp) ?_
                      refine AllReadyH.cons (o := { dst := some 50, op := Op.call { callee := Callee.value (Operand.func 10), args := #[Operand.tmp 45, Operand.tmp 49], argTypes := #[27, 27] }, type := 4, pos := "law.go:48", after := #[{ on := 10, ground := Ground.data }, { on := 14, ground := Ground.data }, { on := 14, ground := Ground.chain }, { on := 6, ground := Ground.guard }], guard := some (6, false) }) rfl (fun K7 hK7 => ?_) ?_
                      · go_simp
                        refine (HS2.out _ _ _ _ _ _ _ _ HO1.out HO2.out).mono ?_
                        rintro e V ⟨rfl, hb⟩
                        clear HO1 HO2
                        have HX := Lib.hid (HX.out.keep hb)
                        have HOc := Lib.hid (HOc.out.keep hb)
                        have HCx := Lib.hid (HCx.out.keep hb)
                        clear hb
                        obtain ⟨U, rfl⟩ : ∃ Z, Z = V := ⟨_, rfl⟩
                        try dsimp only
                        refine hK7.out _ _ (⟨HCx.out.cells, HX.out.A.cells⟩) (fun hHeld => ?_)
                        clear hK7 K7
                        try simp only [Act.put, List.setIfInBounds_toArray, List.set_cons_zero, List.set_cons_succ]
                        refine wpAnyH_take (i := 16) (oi := { dst := some 51, op := Op.unOp UnOp.not 4 (Operand.tmp 50), type := 4, pos := "law.go:48", after := #[{ on := 15, ground := Ground.data }, { on := 6, ground := Ground.guard }], guard := some (6, false) }) (v := ?_) rfl (by kernel_rfl) (by kernel_rfl) (by kernel_rfl) (fun _ _ _ h => h) (Or.inl ⟨by rfl, ?_⟩) hHeld ?_
                        rotate_left 1
                        · intro W hSw
                          (try dsimp only at hSw)
                          go_simp
                          try with_reducible rfl
                        try simp only [Act.put, List.setIfInBounds_toArray, List.set_cons_zero, List.set_cons_succ]
                        refine wpAnyH_take (i := 17) (oi := { dst := some 52, op := Op.pick (Operand.tmp 41) (Operand.const (Value.bool true)) (Operand.tmp 51), type := 4, pos := "law.go:48", after := #[{ on := 6, ground := Ground.data }, { on := 16, ground := Ground.data }], guard := none }) (v := ?_) rfl (by kernel_rfl) (by kernel_rfl) (by kernel_rfl) (fun _ _ _ h => h) (Or.inl ⟨by rfl, ?_⟩) hHeld ?_
                        rotate_left 1
                        · intro W hSw
                          (try dsimp only at hSw)
                          go_simp
                          try with_reducible rfl
                        try simp only [Act.put, List.setIfInBounds_toArray, List.set_cons_zero, List.set_cons_succ]
                        refine wpAnyH_take (i := 18) (oi := { dst := some 53, op := Op.move (Operand.tmp 52), type := 4, pos := "law.go:48", after := #[{ on := 17, ground := Ground.data }, { on := 15, ground := Ground.chain }], guard := none }) (v := ?_) rfl (by kernel_rfl) (by kernel_rfl) (by kernel_rfl) (fun _ _ _ h => h) (Or.inl ⟨by rfl, ?_⟩) hHeld ?_
                        rotate_left 1
                        · intro W hSw
                          (try dsimp only at hSw)
                          go_simp
                          try with_reducible rfl
                        try simp only [Act.put, List.setIfInBounds_toArray, List.set_cons_zero, List.set_cons_succ]
                        refine wpAnyH_take (i := 19) (oi := { dst := some 54, op := Op.load 27 (Operand.tmp 11), type := 27, pos := "law.go:48", after := #[{ on := 18, ground := Ground.guard }], guard := some (18, false) }) (v := ?_) rfl (by kernel_rfl) (by kernel_rfl) (by kernel_rfl) (fun _ _ _ h => h) (Or.inl ⟨by rfl, ?_⟩) hHeld ?_
                        rotate_left 1
                        · intro W hSw
                          (try dsimp only at hSw)
                          go_simp
                          try with_reducible rfl
                        try simp only [Act.put, List.setIfInBounds_toArray, List.set_cons_zero, List.set_cons_succ]
                        refine wpAnyH_take (i := 20) (oi := { dst := some 55, op := Op.move (Operand.tmp 3), type := 3, pos := "law.go:48", after := #[{ on := 18, ground := Ground.guard }], guard := some (18, false) }) (v := ?_) rfl (by kernel_rfl) (by kernel_rfl) (by kernel_rfl) (fun _ _ _ h => h) (Or.inl ⟨by rfl, ?_⟩) hHeld ?_
                        rotate_left 1
                        · intro W hSw
                          (try dsimp only at hSw)
                          go_simp
                          try with_reducible rfl
                        try simp only [Act.put, List.setIfInBounds_toArray, List.set_cons_zero, List.set_cons_succ]
                        refine wpAnyH_take (i := 22) (oi := { dst := some 57, op := Op.load 27 (Operand.tmp 5), type := 27, pos := "law.go:48", after := #[{ on := 18, ground := Ground.guard }], guard := some (18, false) }) (v := ?_) rfl (by kernel_rfl) (by kernel_rfl) (by kernel_rfl) (fun _ _ _ h => h) (Or.inl ⟨by rfl, ?_⟩) hHeld ?_
                        rotate_left 1
                        · intro W hSw
                          (try dsimp only at hSw)
                          go_simp
                          try with_reducible rfl
                        try simp only [Act.put, List.setIfInBounds_toArray, List.set_cons_zero, List.set_cons_succ]
                        refine wpAnyH_take (i := 23) (oi := { dst := some 58, op := Op.move (Operand.tmp 3), type := 3, pos := "law.go:48", after := #[{ on := 18, ground := Ground.guard }], guard := some (18, false) }) (v := ?_) rfl (by kernel_rfl) (by kernel_rfl) (by kernel_rfl) (fun _ _ _ h => h) (Or.inl ⟨by rfl, ?_⟩) hHeld ?_
                        rotate_left 1
                        · intro W hSw
                          (try dsimp only at hSw)
                          go_simp
                          try with_reducible rfl
                        try simp only [Act.put, List.setIfInBounds_toArray, List.set_cons_zero, List.set_cons_succ]
                        refine wpAnyH_ready (rs := [21]) (by kernel_rfl) (by simp) ?_
                        refine AllReadyH.cons (o := { dst := some 56, op := Op.call { callee := Callee.value (Operand.func 18), args := #[Operand.tmp 54, Operand.tmp 55], argTypes := #[27, 3] }, type := 27, pos := "law.go:48", after := #[{ on := 19, ground := Ground.data }, { on := 20, ground := Ground.data }, { on := 18, ground := Ground.chain }, { on := 18, ground := Ground.guard }], guard := some (18, false) }) rfl (fun K7 hK7 => ?_) ?_
                        · go_simp
                          refine (HA1.out _ _ _ _ HOc.out HRi.out.2).mono ?_
                          rintro e V ⟨s1, t1, rfl, ho, hb⟩
                          obtain ⟨g1, g2, rfl⟩ := ho.1.slice
                          obtain ⟨g3, g4, rfl⟩ := ho.2.slice
                          have HO1 := Lib.hid ho
                          clear ho
                          have HX := Lib.hid (HX.out.keep hb)
                          have HOc := Lib.hid (HOc.out.keep hb)
                          have HCx := Lib.hid (HCx.out.keep hb)
                          clear hb
                          obtain ⟨U, rfl⟩ : ∃ Z, Z = V := ⟨_, rfl⟩
                          try dsimp only
                          refine hK7.out _ _ (⟨HCx.out.cells, HX.out.A.cells⟩) (fun hHeld => ?_)
                          clear hK7 K7
                          try simp only [Act.put, List.setIfInBounds_toArray, List.set_cons_zero, List.set_cons_succ]
                          refine wpAnyH_ready (rs := [24]) (by kernel_rfl) (by simp) ?_
                          refine AllReadyH.cons (o := { dst := some 59, op := Op.call { callee := Callee.value (Operand.func 19), args := #[Operand.tmp 57, Operand.tmp 58], argTypes := #[27, 3] }, type := 27, pos := "law.go:48", after := #[{ on := 22, ground := Ground.data }, { on := 23, ground := Ground.data }, { on := 21, ground := Ground.chain }, { on := 18, ground := Ground.guard }], guard := some (18, false) }) rfl (fun K7 hK7 => ?_) ?_
                          · go_simp
                            refine (HA2.out _ HX.out.bel).mono ?_
                            rintro e V ⟨s2, t2, rfl, ho, hb⟩
                            obtain ⟨h1, h2, rfl⟩ := ho.1.slice
                            obtain ⟨h3, h4, rfl⟩ := ho.2.slice
                            have HO1 := Lib.hid (HO1.out.keep hb)
                            have HO2 := Lib.hid ho
                            clear ho
                            have HX := Lib.hid (HX.out.keep hb)
                            have HOc := Lib.hid (HOc.out.keep hb)
                            have HCx := Lib.hid (HCx.out.keep hb)
                            clear hb
                            obtain ⟨U, rfl⟩ : ∃ Z, Z = V := ⟨_, rfl⟩
                            try dsimp only
                            refine hK7.out _ _ (⟨HCx.out.cells, HX.out.A.cells⟩) (fun hHeld => ?_)
                            clear hK7 K7
                            try simp only [Act.put, List.setIfInBounds_toArray, List.set_cons_zero, List.set_cons_succ]
                            refine wpAnyH_ready (rs := [25]) (by kernel_rfl) (by simp) ?_
                            refine AllReadyH.cons (o := { dst := some 60, op := Op.call { callee := Callee.value (Operand.func 10), args := #[Operand.tmp 56, Operand.tmp 59], argTypes := #[27, 27] }, type := 4, pos := "law.go:48", after := #[{ on := 21, ground := Ground.data }, { on := 24, ground := Ground.data }, { on := 24, ground := Ground.chain }, { on := 18, ground := Ground.guard }], guard := some (18, false) }) rfl (fun K7 hK7 => ?_) ?_
                            · go_simp
                              refine (HS2.out _ _ _ _ _ _ _ _ HO1.out HO2.out).mono ?_
                              rintro e V ⟨rfl, hb⟩
                              clear HO1 HO2
                              have HX := Lib.hid (HX.out.keep hb)
                              have HOc := Lib.hid (HOc.out.keep hb)
                              have HCx := Lib.hid (HCx.out.keep hb)
                              clear hb
                              obtain ⟨U, rfl⟩ : ∃ Z, Z = V := ⟨_, rfl⟩
                              try dsimp only
                              refine hK7.out _ _ (⟨HCx.out.cells, HX.out.A.cells⟩) (fun hHeld => ?_)
                              clear hK7 K7
                              try simp only [Act.put, List.setIfInBounds_toArray, List.set_cons_zero, List.set_cons_succ]
                              refine wpAnyH_take (i := 26) (oi := { dst := some 61, op := Op.unOp UnOp.not 4 (Operand.tmp 60), type := 4, pos := "law.go:48", after := #[{ on := 25, ground := Ground.data }, { on := 18, ground := Ground.guard }], guard := some (18, false) }) (v := ?_) rfl (by kernel_rfl) (by kernel_rfl) (by kernel_rfl) (fun _ _ _ h => h) (Or.inl ⟨by rfl, ?_⟩) hHeld ?_
                              rotate_left 1
                              · intro W hSw
                                (try dsimp only at hSw)
                                go_simp
                                try with_reducible rfl
                              try simp only [Act.put, List.setIfInBounds_toArray, List.set_cons_zero, List.set_cons_succ]
                              refine wpAnyH_take (i := 27) (oi := { dst := some 62, op := Op.pick (Operand.tmp 53) (Operand.const (Value.bool true)) (Operand.tmp 61), type := 4, pos := "law.go:48", after := #[{ on := 18, ground := Ground.data }, { on := 26, ground := Ground.data }], guard := none }) (v := ?_) rfl (by kernel_rfl) (by kernel_rfl) (by kernel_rfl) (fun _ _ _ h => h) (Or.inl ⟨by rfl, ?_⟩) hHeld ?_
                              rotate_left 1
                              · intro W hSw
                                (try dsimp only at hSw)
                                go_simp
                                try with_reducible rfl
                              try simp only [Act.put, List.setIfInBounds_toArray, List.set_cons_zero, List.set_cons_succ]
                              refine wpAnyH_take (i := 28) (oi := { dst := some 63, op := Op.move (Operand.tmp 62), type := 4, pos := "law.go:48", after := #[{ on := 27, ground := Ground.data }, { on := 25, ground := Ground.chain }], guard := none }) (v := ?_) rfl (by kernel_rfl) (by kernel_rfl) (by kernel_rfl) (fun _ _ _ h => h) (Or.inl ⟨by rfl, ?_⟩) hHeld ?_
                              rotate_left 1
                              · intro W hSw
                                (try dsimp only at hSw)
                                go_simp
                                try with_reducible rfl
                              try simp only [Act.put, List.setIfInBounds_toArray, List.set_cons_zero, List.set_cons_succ]
                              refine wpAnyH_take (i := 29) (oi := { dst := some 64, op := Op.load 27 (Operand.tmp 11), type := 27, pos := "law.go:48", after := #[{ on := 28, ground := Ground.guard }], guard := some (28, false) }) (v := ?_) rfl (by kernel_rfl) (by kernel_rfl) (by kernel_rfl) (fun _ _ _ h => h) (Or.inl ⟨by rfl, ?_⟩) hHeld ?_
                              rotate_left 1
                              · intro W hSw
                                (try dsimp only at hSw)
                                go_simp
                                try with_reducible rfl
                              try simp only [Act.put, List.setIfInBounds_toArray, List.set_cons_zero, List.set_cons_succ]
                              refine wpAnyH_take (i := 31) (oi := { dst := some 66, op := Op.load 27 (Operand.tmp 5), type := 27, pos := "law.go:48", after := #[{ on := 28, ground := Ground.guard }], guard := some (28, false) }) (v := ?_) rfl (by kernel_rfl) (by kernel_rfl) (by kernel_rfl) (fun _ _ _ h => h) (Or.inl ⟨by rfl, ?_⟩) hHeld ?_
                              rotate_left 1
                              · intro W hSw
                                (try dsimp only at hSw)
                                go_simp
                                try with_reducible rfl
                              try simp only [Act.put, List.setIfInBounds_toArray, List.set_cons_zero, List.set_cons_succ]
                              refine wpAnyH_ready (rs := [30]) (by kernel_rfl) (by simp) ?_
                              refine AllReadyH.cons (o := { dst := some 65, op := Op.call { callee := Callee.value (Operand.func 20), args := #[Operand.tmp 64], argTypes := #[27] }, type := 27, pos := "law.go:48", after := #[{ on := 29, ground := Ground.data }, { on := 28, ground := Ground.chain }, { on := 28, ground := Ground.guard }], guard := some (28, false) }) rfl (fun K7 hK7 => ?_) ?_
                              · go_simp
                                refine (HD1.out _ _ _ _ HOc.out).mono ?_
                                rintro e V ⟨s1, t1, rfl, ho, hb⟩
                                obtain ⟨g1, g2, rfl⟩ := ho.1.slice
                                obtain ⟨g3, g4, rfl⟩ := ho.2.slice
                                have HO1 := Lib.hid ho
                                clear ho
                                have HX := Lib.hid (HX.out.keep hb)
                                have HOc := Lib.hid (HOc.out.keep hb)
                                have HCx := Lib.hid (HCx.out.keep hb)
                                clear hb
                                obtain ⟨U, rfl⟩ : ∃ Z, Z = V := ⟨_, rfl⟩
                                try dsimp only
                                refine hK7.out _ _ (⟨HCx.out.cells, HX.out.A.cells⟩) (fun hHeld => ?_)
                                clear hK7 K7
                                try simp only [Act.put, List.setIfInBounds_toArray, List.set_cons_zero, List.set_cons_succ]
                                refine wpAnyH_ready (rs := [32]) (by kernel_rfl) (by simp) ?_
                                refine AllReadyH.cons (o := { dst := some 67, op := Op.call { callee := Callee.value (Operand.func 21), args := #[Operand.tmp 66], argTypes := #[27] }, type := 27, pos := "law.go:48", after := #[{ on := 31, ground := Ground.data }, { on := 30, ground := Ground.chain }, { on := 28, ground := Ground.guard }], guard := some (28, false) }) rfl (fun K7 hK7 => ?_) ?_
                                · go_simp
                                  refine (HD2.out _ HX.out.bel).mono ?_
                                  rintro e V ⟨s2, t2, rfl, ho, hb⟩
                                  obtain ⟨h1, h2, rfl⟩ := ho.1.slice
                                  obtain ⟨h3, h4, rfl⟩ := ho.2.slice
                                  have HO1 := Lib.hid (HO1.out.keep hb)
                                  have HO2 := Lib.hid ho
                                  clear ho
                                  have HX := Lib.hid (HX.out.keep hb)
                                  have HOc := Lib.hid (HOc.out.keep hb)
                                  have HCx := Lib.hid (HCx.out.keep hb)
                                  clear hb
                                  obtain ⟨U, rfl⟩ : ∃ Z, Z = V := ⟨_, rfl⟩
                                  try dsimp only
                                  refine hK7.out _ _ (⟨HCx.out.cells, HX.out.A.cells⟩) (fun hHeld => ?_)
                                  clear hK7 K7
                                  try simp only [Act.put, List.setIfInBounds_toArray, List.set_cons_zero, List.set_cons_succ]
                                  refine wpAnyH_ready (rs := [33]) (by kernel_rfl) (by simp) ?_
                                  refine AllReadyH.cons (o := { dst := some 68, op := Op.call { callee := Callee.value (Operand.func 10), args := #[Operand.tmp 65, Operand.tmp 67], argTypes := #[27, 27] }, type := 4, pos := "law.go:48", after := #[{ on := 30, ground := Ground.data }, { on := 32, ground := Ground.data }, { on := 32, ground := Ground.chain }, { on := 28, ground := Ground.guard }], guard := some (28, false) }) rfl (fun K7 hK7 => ?_) ?_
                                  · go_simp
                                    refine (HS2.out _ _ _ _ _ _ _ _ HO1.out HO2.out).mono ?_
                                    rintro e V ⟨rfl, hb⟩
                                    clear HO1 HO2
                                    have HX := Lib.hid (HX.out.keep hb)
                                    have HOc := Lib.hid (HOc.out.keep hb)
                                    have HCx := Lib.hid (HCx.out.keep hb)
                                    clear hb
                                    obtain ⟨U, rfl⟩ : ∃ Z, Z = V := ⟨_, rfl⟩
                                    try dsimp only
                                    refine hK7.out _ _ (⟨HCx.out.cells, HX.out.A.cells⟩) (fun hHeld => ?_)
                                    clear hK7 K7
                                    try simp only [Act.put, List.setIfInBounds_toArray, List.set_cons_zero, List.set_cons_succ]
                                    refine wpAnyH_take (i := 34) (oi := { dst := some 69, op := Op.unOp UnOp.not 4 (Operand.tmp 68), type := 4, pos := "law.go:48", after := #[{ on := 33, ground := Ground.data }, { on := 28, ground := Ground.guard }], guard := some (28, false) }) (v := ?_) rfl (by kernel_rfl) (by kernel_rfl) (by kernel_rfl) (fun _ _ _ h => h) (Or.inl ⟨by rfl, ?_⟩) hHeld ?_
                                    rotate_left 1
                                    · intro W hSw
                                      (try dsimp only at hSw)
                                      go_simp
                                      try with_reducible rfl
                                    try simp only [Act.put, List.setIfInBounds_toArray, List.set_cons_zero, List.set_cons_succ]
                                    refine wpAnyH_take (i := 35) (oi := { dst := some 70, op := Op.pick (Operand.tmp 63) (Operand.const (Value.bool true)) (Operand.tmp 69), type := 4, pos := "law.go:48", after := #[{ on := 28, ground := Ground.data }, { on := 34, ground := Ground.data }], guard := none }) (v := ?_) rfl (by kernel_rfl) (by kernel_rfl) (by kernel_rfl) (fun _ _ _ h => h) (Or.inl ⟨by rfl, ?_⟩) hHeld ?_
                                    rotate_left 1
                                    · intro W hSw
                                      (try dsimp only at hSw)
                                      go_simp
                                      try with_reducible rfl
                                    try simp only [Act.put, List.setIfInBounds_toArray, List.set_cons_zero, List.set_cons_succ]
                                    refine wpAnyH_take (i := 36) (oi := { dst := some 71, op := Op.move (Operand.tmp 70), type := 4, pos := "law.go:48", after := #[{ on := 35, ground := Ground.data }, { on := 33, ground := Ground.chain }], guard := none }) (v := ?_) rfl (by kernel_rfl) (by kernel_rfl) (by kernel_rfl) (fun _ _ _ h => h) (Or.inl ⟨by rfl, ?_⟩) hHeld ?_
                                    rotate_left 1
                                    · intro W hSw
                                      (try dsimp only at hSw)
                                      go_simp
                                      try with_reducible rfl
                                    try simp only [Act.put, List.setIfInBounds_toArray, List.set_cons_zero, List.set_cons_succ]
                                    refine wpAnyH_take (i := 37) (oi := { dst := some 72, op := Op.load 27 (Operand.tmp 11), type := 27, pos := "law.go:48", after := #[{ on := 36, ground := Ground.guard }], guard := some (36, false) }) (v := ?_) rfl (by kernel_rfl) (by kernel_rfl) (by kernel_rfl) (fun _ _ _ h => h) (Or.inl ⟨by rfl, ?_⟩) hHeld ?_
                                    rotate_left 1
                                    · intro W hSw
                                      (try dsimp only at hSw)
                                      go_simp
                                      try with_reducible rfl
                                    try simp only [Act.put, List.setIfInBounds_toArray, List.set_cons_zero, List.set_cons_succ]
                                    refine wpAnyH_take (i := 38) (oi := { dst := some 73, op := Op.move (Operand.tmp 4), type := 3, pos := "law.go:48", after := #[{ on := 36, ground := Ground.guard }], guard := some (36, false) }) (v := ?_) rfl (by kernel_rfl) (by kernel_rfl) (by kernel_rfl) (fun _ _ _ h => h) (Or.inl ⟨by rfl, ?_⟩) hHeld ?_
                                    rotate_left 1
                                    · intro W hSw
                                      (try dsimp only at hSw)
                                      go_simp
                                      try with_reducible rfl
                                    try simp only [Act.put, List.setIfInBounds_toArray, List.set_cons_zero, List.set_cons_succ]
                                    refine wpAnyH_take (i := 40) (oi := { dst := some 75, op := Op.load 27 (Operand.tmp 5), type := 27, pos := "law.go:48", after := #[{ on := 36, ground := Ground.guard }], guard := some (36, false) }) (v := ?_) rfl (by kernel_rfl) (by kernel_rfl) (by kernel_rfl) (fun _ _ _ h => h) (Or.inl ⟨by rfl, ?_⟩) hHeld ?_
                                    rotate_left 1
                                    · intro W hSw
                                      (try dsimp only at hSw)
                                      go_simp
                                      try with_reducible rfl
                                    try simp only [Act.put, List.setIfInBounds_toArray, List.set_cons_zero, List.set_cons_succ]
                                    refine wpAnyH_take (i := 41) (oi := { dst := some 76, op := Op.move (Operand.tmp 4), type := 3, pos := "law.go:48", after := #[{ on := 36, ground := Ground.guard }], guard := some (36, false) }) (v := ?_) rfl (by kernel_rfl) (by kernel_rfl) (by kernel_rfl) (fun _ _ _ h => h) (Or.inl ⟨by rfl, ?_⟩) hHeld ?_
                                    rotate_left 1
                                    · intro W hSw
                                      (try dsimp only at hSw)
                                      go_simp
                                      try with_reducible rfl
                                    try simp only [Act.put, List.setIfInBounds_toArray, List.set_cons_zero, List.set_cons_succ]
                                    refine wpAnyH_ready (rs := [39]) (by kernel_rfl) (by simp) ?_
                                    refine AllReadyH.cons (o := { dst := some 74, op := Op.call { callee := Callee.value (Operand.func 22), args := #[Operand.tmp 72, Operand.tmp 73], argTypes := #[27, 3] }, type := 4, pos := "law.go:48", after := #[{ on := 37, ground := Ground.data }, { on := 38, ground := Ground.data }, { on := 36, ground := Ground.chain }, { on := 36, ground := Ground.guard }], guard := some (36, false) }) rfl (fun K7 hK7 => ?_) ?_
                                    · go_simp
                                      refine (HC1.out _ _ _ _ HOc.out).mono ?_
                                      rintro e V ⟨rfl, hb⟩
                                      have HX := Lib.hid (HX.out.keep hb)
                                      have HOc := Lib.hid (HOc.out.keep hb)
                                      have HCx := Lib.hid (HCx.out.keep hb)
                                      clear hb
                                      obtain ⟨U, rfl⟩ : ∃ Z, Z = V := ⟨_, rfl⟩
                                      try dsimp only
                                      refine hK7.out _ _ (⟨HCx.out.cells, HX.out.A.cells⟩) (fun hHeld => ?_)
                                      clear hK7 K7
                                      try simp only [Act.put, List.setIfInBounds_toArray, List.set_cons_zero, List.set_cons_succ]
                                      refine wpAnyH_ready (rs := [42]) (by kernel_rfl) (by simp) ?_
                                      refine AllReadyH.cons (o := { dst := some 77, op := Op.call { callee := Callee.value (Operand.func 23), args := #[Operand.tmp 75, Operand.tmp 76], argTypes := #[27, 3] }, type := 4, pos := "law.go:48", after := #[{ on := 40, ground := Ground.data }, { on := 41, ground := Ground.data }, { on := 39, ground := Ground.chain }, { on := 36, ground := Ground.guard }], guard := some (36, false) }) rfl (fun K7 hK7 => ?_) ?_
                                      · go_simp
                                        refine (HC2.out _ HX.out.bel).mono ?_
                                        rintro e V ⟨rfl, hb⟩
                                        have HX := Lib.hid (HX.out.keep hb)
                                        have HOc := Lib.hid (HOc.out.keep hb)
                                        have HCx := Lib.hid (HCx.out.keep hb)
                                        clear hb
                                        obtain ⟨U, rfl⟩ : ∃ Z, Z = V := ⟨_, rfl⟩
                                        try dsimp only
                                        refine hK7.out _ _ (⟨HCx.out.cells, HX.out.A.cells⟩) (fun hHeld => ?_)
                                        clear hK7 K7
                                        try simp only [Act.put, List.setIfInBounds_toArray, List.set_cons_zero, List.set_cons_succ]
                                        refine wpAnyH_take (i := 43) (oi := { dst := some 78, op := Op.binOp BinOp.neq 4 (Operand.tmp 74) (Operand.tmp 77) 4, type := 4, pos := "law.go:48", after := #[{ on := 39, ground := Ground.data }, { on := 42, ground := Ground.data }, { on := 36, ground := Ground.guard }], guard := some (36, false) }) (v := ?_) rfl (by kernel_rfl) (by kernel_rfl) (by kernel_rfl) (fun _ _ _ h => h) (Or.inl ⟨by rfl, ?_⟩) hHeld ?_
                                        rotate_left 1
                                        · intro W hSw
                                          (try dsimp only at hSw)
                                          go_simp
                                          try with_reducible rfl
                                        try simp only [Act.put, List.setIfInBounds_toArray, List.set_cons_zero, List.set_cons_succ]
                                        refine wpAnyH_take (i := 44) (oi := { dst := some 79, op := Op.pick (Operand.tmp 71) (Operand.const (Value.bool true)) (Operand.tmp 78), type := 4, pos := "law.go:48", after := #[{ on := 36, ground := Ground.data }, { on := 43, ground := Ground.data }], guard := none }) (v := ?_) rfl (by kernel_rfl) (by kernel_rfl) (by kernel_rfl) (fun _ _ _ h => h) (Or.inl ⟨by rfl, ?_⟩) hHeld ?_
                                        rotate_left 1
                                        · intro W hSw
                                          (try dsimp only at hSw)
                                          go_simp
                                          try with_reducible rfl
                                        try simp only [Act.put, List.setIfInBounds_toArray, List.set_cons_zero, List.set_cons_succ]
                                        refine wpAnyH_done (by kernel_rfl) ?_ _
                                        clear hHeld
                                        obtain ⟨m0, m1, m2, m3, m4, m5, m6⟩ := HCx.out.cells
                                        go_upto_region 9 with (go_at_call 24; refine (HW1.out _ _ _ _ HOc.out HRi.out.1 HRi.out.2).mono ?_; rintro e V ⟨v1, rfl, ho, hb⟩; obtain ⟨p1, q1, rfl⟩ := ho.slice; have HR1 := Lib.hid ho; have HX := Lib.hid (HX.out.keep hb); have HOc := Lib.hid (HOc.out.keep hb); have HCx := Lib.hid (HCx.out.keep hb); clear ho hb m0 m1 m2 m3 m4 m5 m6)
                                        obtain ⟨m0, m1, m2, m3, m4, m5, m6⟩ := HX.out.A.cells
                                        go_upto_region 10 with (go_at_call 25; refine (HW2.out _ HX.out.bel).mono ?_; rintro e V2 ⟨v2, rfl, ho, hb⟩; obtain ⟨p2, q2, rfl⟩ := ho.slice; have HR1 := Lib.hid (HR1.out.below hb); have HR2 := Lib.hid ho; have HX := Lib.hid (HX.out.keep hb); have HOc := Lib.hid (HOc.out.keep hb); have HCx := Lib.hid (HCx.out.keep hb); clear ho hb m0 m1 m2 m3 m4 m5 m6)
                                        have HR1 := Lib.hid (HR1.out.read ic_len)
                                        have HR2 := Lib.hid (HR2.out.read ic_len)
                                        obtain ⟨L, hL⟩ : ∃ L, ys.length = L := ⟨_, rfl⟩
                                        have HL := Lib.hid hL
                                        rw [hL] at HR1 HR2 HWl ⊢
                                        clear hL
                                        have hL64 : L ≤ 64 := HWl.out
                                        go_upto_region 12 with fail
                                        go_wp2
                                        go_loopw [14] (fun v9 wr => ∃ k : Nat, k ≤ L ∧ v9 = .int .i64 k ∧ Below V2.heap.size V2 wr) (fun i _ => L - (intOf i).toNat)
                                        case atStart => exact ⟨0, by omega, rfl, Below.refl _ _⟩
                                        case round =>
                                          obtain ⟨k, hk, rfl, hbw⟩ := hrel
                                          have HBw := Lib.hid hbw
                                          clear hbw
                                          by_cases hlt : k < L
                                          · have hlt' : (k : Int) < L := by omega
                                            have hk0 : (0 : Int) ≤ k := by omega
                                            have hi : k < ys.length := by rw [HL.out]; exact hlt
                                            obtain ⟨b1, o1, z1, hl1, hr1⟩ := sl_elem (HR1.out.keep HBw.out) k hi
                                            obtain ⟨b2, o2, z2, hl2, hr2⟩ := sl_elem (HR2.out.keep HBw.out) k hi
                                            have HDw := Lib.hid (below_drew HBw.out)
                                            have d1 := icell_at (range_keep hr1 hl1 (below_drew (Below.refl wr.heap.size wr)))
                                            have d2 := icell_at (range_keep hr2 hl2 (below_drew (Below.refl wr.heap.size wr)))
                                            rw [Nat.mul_one] at d1 d2
                                            subst z1; subst z2
                                            generalize ys[k] = y at d1 d2
                                            clear hl1 hl2 hr1 hr2
                                            go_upto_region 15 with fail
                                            go_region_held3 (fun u => u.cell? ⟨b1, o1 + k, none⟩ = some (.int .i64 y) ∧ u.cell? ⟨b2, o2 + k, none⟩ = some (.int .i64 y))
                                              (first | exact ⟨d1, d2⟩)
                                              (first | fail)
                                            clear d1 d2
                                            go_wp2
                                            go_roundw
                                            case rel => exact ⟨k + 1, by omega, by go_num, HDw.out⟩
                                            case measure => simp [intOf]; omega
                                          · obtain rfl : k = L := by omega
                                            have HX := Lib.hid (HX.out.keep HBw.out)
                                            have HOc := Lib.hid (HOc.out.keep HBw.out)
                                            have HCx := Lib.hid (HCx.out.keep HBw.out)
                                            obtain ⟨m0, m1, m2, m3, m4, m5, m6⟩ := HX.out.A.cells
                                            obtain ⟨n0, n1, n2, n3, n4, n5, n6⟩ := HCx.out.cells
                                            go_wp2_with (first
                                              | (go_at_call 10; refine (HS3.out _ _ _ _ HOc.out HX.out.bel).mono ?_; rintro e V3 ⟨rfl, hb⟩; have HX := Lib.hid (HX.out.keep hb); clear hb m0 m1 m2 m3 m4 m5 m6 n0 n1 n2 n3 n4 n5 n6)
                                              | (go_at_call 13; refine (HAw.out _).mono ?_; rintro e V4 ⟨rfl, hb⟩; have HX := Lib.hid (HX.out.keep hb); clear hb))
                                            go_ret
                                            exact ⟨rfl, HX.out.bel⟩
                                      exact AllReadyH.nil
                                    exact AllReadyH.nil
                                  exact AllReadyH.nil
                                exact AllReadyH.nil
                              exact AllReadyH.nil
                            exact AllReadyH.nil
                          exact AllReadyH.nil
                        exact AllReadyH.nil
                      exact AllReadyH.nil
                    exact AllReadyH.nil
                  exact AllReadyH.nil
                exact AllReadyH.nil
              exact AllReadyH.nil
            exact AllReadyH.nil
        exact AllReadyH.nil
      exact AllReadyH.nil
    exact AllReadyH.nil
  exact AllReadyH.nil
end Go.Proofs.Ytcofmfjhgbihkaa.crush
