/- Chapter 7's examples: the law's own 'awake', which is true. -/
import Derived.Test.YtgdfdljgbogbnaaDoorRows
import Derived.Test.YtgdfdljgbogbnaaDoorJournalPlay
import Derived.Test.YtgdfdljgbogbnaaDoorSectorRNew
namespace Go.Proofs.YtgdfdljgbogbnaaDoor.journal
open Go.RowKit
open Go.Proofs.YtgdfdljgbogbnaaDoor.kit Go.Proofs.YtgdfdljgbogbnaaDoor.own Go.Proofs.YtgdfdljgbogbnaaDoor.jm Go.Proofs.YtgdfdljgbogbnaaDoor.sector
open Go.Proofs.YtgdfdljgbogbnaaDoor.frame (Nib)
set_option linter.unusedVariables false
set_option linter.unusedSimpArgs false
attribute [local go_sem] Oper.semAt_some

theorem OwnT.form2 {w : World} {B : Nat} {v : Value} {ss : List ByteArray} (h : OwnT w B v ss) (n : Nat) (hn : ss.length = n) : ∃ a c, v = .slice a n c := by
  subst hn
  unfold OwnT World.ownsRow at h
  rcases h.2 with ⟨h1, h2⟩ | ⟨g, cap, cur, h1, _⟩
  · exact ⟨none, 0, by rw [h1, h2]⟩
  · exact ⟨_, cap, h1⟩
theorem OwnT.cells {w : World} {B : Nat} {v : Value} {ss : List ByteArray} (h : OwnT w B v ss) (n : Nat) (hn : ss.length = n) (h0 : 0 < n) : ∃ g cap, v = .slice (some ⟨g, 0, none⟩) n cap ∧ ∀ j s, ss[j]? = some s → w.cell? ⟨g, j, none⟩ = some (.string s) := by
  subst hn
  have h' := h
  unfold OwnT World.ownsRow at h
  rcases h.2 with ⟨h1, h2⟩ | ⟨g, cap, cur, h1, _⟩
  · omega
  · refine ⟨g, cap, h1, fun j s hj => ?_⟩
    have := World.ownsRow.cells h' (g := g) (by rw [h1]; rfl) j (.string s) (by rw [List.getElem?_map, hj]; rfl)
    have e : ((⟨g, 0, none⟩ : Addr).add j) = ⟨g, j, none⟩ := by
      by_cases h0 : j = 0
      · subst h0; rfl
      · simp [Addr.add, h0]
    rw [e] at this
    exact this

set_option maxHeartbeats 8000000 in
set_option maxRecDepth 100000 in
theorem jawake_any (w : World) (hN : Nib w) : Calls Tryd.prog 10 #[] w fun e w' => e = .returned (.bool true) ∧ Below w.heap.size w w' := by
  have HNb := Lib.hid hN
  clear hN
  go_enter Tryd.func10, Tryd.ntmps10
  go_wp2_with fail
  refine (New_ok w 8 (by omega) (by omega)).mono ?_
  rintro e w1 ⟨d, rfl, hd1, hb1⟩
  have HD1 := Lib.hid hd1; have HB1 := Lib.hid hb1
  have HO := Lib.hid (Open_ok w1 _ d (fresh 8) 2 4 1 hd1 (by show 6 ≤ 8; omega) (by omega) ⟨by omega, by unfold maxNum; omega⟩ rfl (HNb.out.keep hb1))
  obtain ⟨f1, f2⟩ := fresh_stand (N := 8) (from_ := 2) (n := 4) (first := 1) (by omega) (by omega)
  rw [f1, f2] at HO
  clear hd1 hb1
  go_wp2_with fail
  refine HO.out.mono ?_
  rintro e w2 ⟨J, v, rfl, hj, hJ, ho, hb2⟩
  have HP := Lib.hid (play_new rfl HB1.out HD1.out hb2 hJ hj HNb.out)
  have HRm := Lib.hid (Room_any w2 J _ 2 6 2 1 false (JBox.v hj) (by omega) (by omega))
  obtain ⟨va, vc, rfl⟩ := OwnT.form2 ho 0 rfl
  have hrv : roomV 6 2 1 = 212 := by decide
  rw [hrv] at HRm
  clear hj hJ hb2 hrv f1 f2 ho
  go_wp2_with fail
  refine HRm.out.mono ?_
  rintro e w3 ⟨rfl, nq, rfl⟩
  have HP3 := Lib.hid (HP.out.keep ((Below.refl _ w2).drewN' nq))
  generalize w2.drewN nq = w3 at HP3 ⊢
  obtain ⟨w4, hm4, ho4, hb4⟩ := made_down w3 50 (by omega)
  have hm5 : (Instr.makeSlice 22 (.int .i64 50) (.int .i64 50)).run Tryd.prog w3 = .ok (.slice (some ⟨w3.heap.size, 0, none⟩) 50 50) w4 := hm4
  have hcv := conv_sl ho4.read
  have HP4 := Lib.hid (HP3.out.keep hb4)
  have hlg : (strN (List.replicate 50 0)).size = 50 := by rw [strN_size]; simp
  have hle : (strN (List.replicate 50 0)).extract 0 48 = strN (List.replicate 48 0) := by rw [strN_take]; rfl
  generalize hLG : strN (List.replicate 50 0) = lg at hcv hlg hle
  have HLG := Lib.hid hLG
  clear hm4 ho4 hb4 hLG
  have hs0 : Stood 1 2 4 [] ⟨d, 2, 6, 2, 1, false⟩ (fresh 8) := by
    have h := stood_open (m := fresh 8) (fresh_rests (by omega)) d 1 2 4 (by show 6 ≤ 8; omega) (by omega)
    obtain ⟨f1, f2⟩ := fresh_stand (N := 8) (from_ := 2) (n := 4) (first := 1) (by omega) (by omega)
    rw [f1, f2] at h
    exact h
  have HPd : PlayAt w.heap.size w w4.drew (Fresh w w1) J ⟨d, 2, 6, 2, 1, false⟩ (fresh 8) := HP4.out.keep ⟨rfl, rfl, rfl, Nat.le_refl _, fun _ _ => rfl⟩
  have hg1 := HPd.grow hs0 rfl [97] (by simp) (by show ¬ leftV 6 2 1 < need 1; decide) (by decide) (by decide)
  have h97 : strN [97] = ⟨#[97]⟩ := by decide +kernel
  rw [h97] at hg1
  have HG1 := Lib.hid hg1
  clear hg1 hs0 h97 HPd
  go_upto_region 6 with fail
--A6
  refine wp_region_held_drew (S := fun _ => True) (by kernel_rfl) (trivial) (fun hHeld => ?_)
  refine wpAnyH_take (i := 0) (oi := { dst := some 30, op := Op.move (Operand.tmp 2), type := 29, pos := "law.go:184", after := #[], guard := none }) (v := ?_) rfl (by kernel_rfl) (by kernel_rfl) (by kernel_rfl) (fun _ _ _ h => h) (Or.inl ⟨by rfl, ?_⟩) hHeld ?_
  rotate_left 1
  · intro W hSw
    (try dsimp only at hSw)
    go_simp
    try with_reducible rfl
  try simp only [Act.put, List.setIfInBounds_toArray, List.set_cons_zero, List.set_cons_succ]
  refine wpAnyH_take (i := 2) (oi := { dst := some 32, op := Op.move (Operand.tmp 2), type := 29, pos := "law.go:184", after := #[], guard := none }) (v := ?_) rfl (by kernel_rfl) (by kernel_rfl) (by kernel_rfl) (fun _ _ _ h => h) (Or.inl ⟨by rfl, ?_⟩) hHeld ?_
  rotate_left 1
  · intro W hSw
    (try dsimp only at hSw)
    go_simp
    try with_reducible rfl
  try simp only [Act.put, List.setIfInBounds_toArray, List.set_cons_zero, List.set_cons_succ]
  refine wpAnyH_take (i := 3) (oi := { dst := some 33, op := Op.move (Operand.tmp 5), type := 9, pos := "law.go:184", after := #[], guard := none }) (v := ?_) rfl (by kernel_rfl) (by kernel_rfl) (by kernel_rfl) (fun _ _ _ h => h) (Or.inl ⟨by rfl, ?_⟩) hHeld ?_
  rotate_left 1
  · intro W hSw
    (try dsimp only at hSw)
    go_simp
    try with_reducible rfl
  try simp only [Act.put, List.setIfInBounds_toArray, List.set_cons_zero, List.set_cons_succ]
  refine wpAnyH_take (i := 5) (oi := { dst := some 35, op := Op.move (Operand.tmp 2), type := 29, pos := "law.go:184", after := #[], guard := none }) (v := ?_) rfl (by kernel_rfl) (by kernel_rfl) (by kernel_rfl) (fun _ _ _ h => h) (Or.inl ⟨by rfl, ?_⟩) hHeld ?_
  rotate_left 1
  · intro W hSw
    (try dsimp only at hSw)
    go_simp
    try with_reducible rfl
  try simp only [Act.put, List.setIfInBounds_toArray, List.set_cons_zero, List.set_cons_succ]
  refine wpAnyH_take (i := 6) (oi := { dst := some 36, op := Op.move (Operand.tmp 5), type := 9, pos := "law.go:184", after := #[], guard := none }) (v := ?_) rfl (by kernel_rfl) (by kernel_rfl) (by kernel_rfl) (fun _ _ _ h => h) (Or.inl ⟨by rfl, ?_⟩) hHeld ?_
  rotate_left 1
  · intro W hSw
    (try dsimp only at hSw)
    go_simp
    try with_reducible rfl
  try simp only [Act.put, List.setIfInBounds_toArray, List.set_cons_zero, List.set_cons_succ]
  refine wpAnyH_take (i := 7) (oi := { dst := some 37, op := Op.slice 9 (Operand.tmp 36) none (some (Operand.const (Value.int IntKind.i64 48))) none, type := 9, pos := "law.go:184", after := #[{ on := 6, ground := Ground.data }], guard := none }) (v := ?_) rfl (by kernel_rfl) (by kernel_rfl) (by kernel_rfl) (fun _ _ _ h => h) (Or.inl ⟨by rfl, ?_⟩) hHeld ?_
  rotate_left 1
  · intro W hSw
    (try dsimp only at hSw)
    go_simp
    try with_reducible rfl
  try simp only [Act.put, List.setIfInBounds_toArray, List.set_cons_zero, List.set_cons_succ]
  refine wpAnyH_ready (rs := [1]) (by kernel_rfl) (by simp) ?_
  refine AllReadyH.cons (o := { dst := some 31, op := Op.call { callee := Callee.value (Operand.func 14), args := #[Operand.tmp 30, Operand.const (Value.string { data := #[97] })], argTypes := #[29, 9] }, type := 31, pos := "law.go:184", after := #[{ on := 0, ground := Ground.data }], guard := none }) rfl (fun K hK => ?_) ?_
  · go_simp
    refine HG1.out.mono ?_
    rintro e w5 ⟨rfl, Z5, m5, hp5, hs5, c5, ws5, fs5, n5⟩
    have hg2 := hp5.grow hs5 c5 (List.replicate 50 0) (fun x hx => by rw [(List.mem_replicate.1 hx).2]; omega) (by show ¬ leftV 6 3 2 < need 50; decide) (by rw [ws5]; decide) (by rw [fs5]; decide)
    rw [HLG.out] at hg2
    have HG2 := Lib.hid hg2
    have HQ5 := Lib.hid (And.intro ws5 (And.intro fs5 n5))
    clear hg2 hp5 hs5 c5 ws5 fs5 n5
    try dsimp only
    refine hK.out _ _ (trivial) (fun hHeld => ?_)
    clear hK K
    try simp only [Act.put, List.setIfInBounds_toArray, List.set_cons_zero, List.set_cons_succ]
    refine wpAnyH_ready (rs := [4]) (by kernel_rfl) (by simp) ?_
    refine AllReadyH.cons (o := { dst := some 34, op := Op.call { callee := Callee.value (Operand.func 14), args := #[Operand.tmp 32, Operand.tmp 33], argTypes := #[29, 9] }, type := 31, pos := "law.go:184", after := #[{ on := 2, ground := Ground.data }, { on := 3, ground := Ground.data }, { on := 1, ground := Ground.chain }], guard := none }) rfl (fun K hK => ?_) ?_
    · go_simp
      refine HG2.out.mono ?_
      rintro e w6 ⟨rfl, Z6, m6, hp6, hs6, c6, ws6, fs6, n6⟩
      have hg3 := hp6.over hs6 (List.replicate 48 0) (fun x hx => by rw [(List.mem_replicate.1 hx).2]; omega) (by decide) (show (3 : Nat) < 9223372036854775807 by decide) (by show leftV 6 5 3 < need 48; decide) (by rw [ws6, HQ5.out.1]; decide) (by rw [fs6, HQ5.out.2.1]; decide)
      have HG3 := Lib.hid hg3
      have HS6 := Lib.hid (show Stood 1 2 4 [[97], List.replicate 50 0] ⟨d, 2, 6, 5, 3, false⟩ m6 from hs6)
      have HN6 := Lib.hid (n6.trans HQ5.out.2.2)
      clear hg3 hp6 hs6 c6 ws6 fs6 n6
      try dsimp only
      refine hK.out _ _ (trivial) (fun hHeld => ?_)
      clear hK K
      try simp only [Act.put, List.setIfInBounds_toArray, List.set_cons_zero, List.set_cons_succ]
      refine wpAnyH_ready (rs := [8]) (by kernel_rfl) (by simp) ?_
      refine AllReadyH.cons (o := { dst := some 38, op := Op.call { callee := Callee.value (Operand.func 14), args := #[Operand.tmp 35, Operand.tmp 37], argTypes := #[29, 9] }, type := 31, pos := "law.go:184", after := #[{ on := 5, ground := Ground.data }, { on := 7, ground := Ground.data }, { on := 4, ground := Ground.chain }], guard := none }) rfl (fun K hK => ?_) ?_
      · go_simp
        (try rw [hle])
        refine HG3.out.mono ?_
        rintro e w7 ⟨rfl, Z7, hp7⟩
        have HP7 := Lib.hid (show PlayAt w.heap.size w w7 Z7 J ⟨d, 2, 6, 5, 3, false⟩ m6 from hp7)
        clear hp7
        try dsimp only
        refine hK.out _ _ (trivial) (fun hHeld => ?_)
        clear hK K
        try simp only [Act.put, List.setIfInBounds_toArray, List.set_cons_zero, List.set_cons_succ]
        refine wpAnyH_take (i := 9) (oi := { dst := some 6, op := Op.assign (Operand.tmp 31), type := 31, pos := "law.go:184", after := #[{ on := 1, ground := Ground.data }, { on := 8, ground := Ground.chain }, { on := 0, ground := Ground.phase }, { on := 1, ground := Ground.phase }, { on := 2, ground := Ground.textOnly Departure.lateStores }, { on := 3, ground := Ground.textOnly Departure.lateStores }, { on := 4, ground := Ground.textOnly Departure.lateStoresUnsure }, { on := 5, ground := Ground.textOnly Departure.lateStores }, { on := 6, ground := Ground.textOnly Departure.lateStores }, { on := 7, ground := Ground.textOnly Departure.lateStoresUnsure }, { on := 8, ground := Ground.textOnly Departure.lateStoresUnsure }], guard := none }) (v := ?_) rfl (by kernel_rfl) (by kernel_rfl) (by kernel_rfl) (fun _ _ _ h => h) (Or.inl ⟨by rfl, ?_⟩) hHeld ?_
        rotate_left 1
        · intro W hSw
          (try dsimp only at hSw)
          go_simp
          try with_reducible rfl
        try simp only [Act.put, List.setIfInBounds_toArray, List.set_cons_zero, List.set_cons_succ]
        refine wpAnyH_take (i := 10) (oi := { dst := some 7, op := Op.assign (Operand.tmp 34), type := 31, pos := "law.go:184", after := #[{ on := 4, ground := Ground.data }, { on := 9, ground := Ground.chain }, { on := 0, ground := Ground.phase }, { on := 1, ground := Ground.phase }, { on := 2, ground := Ground.phase }, { on := 3, ground := Ground.phase }, { on := 4, ground := Ground.phase }, { on := 5, ground := Ground.textOnly Departure.lateStores }, { on := 6, ground := Ground.textOnly Departure.lateStores }, { on := 7, ground := Ground.textOnly Departure.lateStoresUnsure }, { on := 8, ground := Ground.textOnly Departure.lateStoresUnsure }, { on := 9, ground := Ground.phase }], guard := none }) (v := ?_) rfl (by kernel_rfl) (by kernel_rfl) (by kernel_rfl) (fun _ _ _ h => h) (Or.inl ⟨by rfl, ?_⟩) hHeld ?_
        rotate_left 1
        · intro W hSw
          (try dsimp only at hSw)
          go_simp
          try with_reducible rfl
        try simp only [Act.put, List.setIfInBounds_toArray, List.set_cons_zero, List.set_cons_succ]
        refine wpAnyH_take (i := 11) (oi := { dst := some 8, op := Op.assign (Operand.tmp 38), type := 31, pos := "law.go:184", after := #[{ on := 8, ground := Ground.data }, { on := 10, ground := Ground.chain }, { on := 0, ground := Ground.phase }, { on := 1, ground := Ground.phase }, { on := 2, ground := Ground.phase }, { on := 3, ground := Ground.phase }, { on := 4, ground := Ground.phase }, { on := 5, ground := Ground.phase }, { on := 6, ground := Ground.phase }, { on := 7, ground := Ground.phase }, { on := 8, ground := Ground.phase }, { on := 9, ground := Ground.phase }, { on := 10, ground := Ground.phase }], guard := none }) (v := ?_) rfl (by kernel_rfl) (by kernel_rfl) (by kernel_rfl) (fun _ _ _ h => h) (Or.inl ⟨by rfl, ?_⟩) hHeld ?_
        rotate_left 1
        · intro W hSw
          (try dsimp only at hSw)
          go_simp
          try with_reducible rfl
        try simp only [Act.put, List.setIfInBounds_toArray, List.set_cons_zero, List.set_cons_succ]
        refine wpAnyH_done (by kernel_rfl) ?_ _
        have ho9 := Open_ok w7 Z7 d m6 2 4 1 HP7.out.dev (by rw [HN6.out]; decide) (by omega) ⟨by omega, by unfold maxNum; omega⟩ HS6.out.rest.power HP7.out.nib
        rw [HS6.out.told] at ho9
        have HO9 := Lib.hid ho9
        clear ho9 hHeld hlg hle
        go_wp2_with fail
        refine HO9.out.mono ?_
        rintro e w9 ⟨J9, v9, rfl, hj9, hJ9, hov, hb9⟩
        have HP9 := Lib.hid (HP7.out.keep hb9)
        obtain ⟨g9, c9, rfl, hcell⟩ := OwnT.cells hov 2 rfl (by omega)
        have l0 := hcell 0 _ rfl
        have l1 := hcell 1 _ rfl
        rw [show strN [97] = ⟨#[97]⟩ by decide +kernel] at l0
        rw [HLG.out] at l1
        have hrm9 := Room_any w9 J _ 2 6 5 3 false (JBox.v HP9.out.jat) (by omega) (by omega)
        rw [show roomV 6 5 3 = 47 by decide] at hrm9
        have HRm9 := Lib.hid hrm9
        clear hrm9 hcell hov hj9 hJ9 hb9
        go_wp2_with fail
        refine HRm9.out.mono ?_
        rintro e w10 ⟨rfl, nq9, rfl⟩
        have l0' : (w9.drewN nq9).cell? ⟨g9, 0, none⟩ = _ := l0
        have l1' : (w9.drewN nq9).cell? ⟨g9, 1, none⟩ = _ := l1
        have HBe := Lib.hid (HP9.out.bel.drewN' nq9)
        clear l0 l1
        generalize w9.drewN nq9 = w10 at l0' l1' HBe ⊢
        have hn1 := Need_any 102 w10 (by decide) (by decide)
        have hn2 := Need_any 103 w10 (by decide) (by decide)
        rw [show ((need (102 : Int).toNat : Nat) : Int) = 2 by decide] at hn1
        rw [show ((need (103 : Int).toNat : Nat) : Int) = 3 by decide] at hn2
        have HN1 := Lib.hid hn1
        have HN2 := Lib.hid hn2
        clear hn1 hn2
        go_wp2_with fail
        refine HN1.out.mono ?_
        rintro e w11 ⟨rfl, rfl⟩
        go_wp2_with fail
        refine HN2.out.mono ?_
        rintro e w12 ⟨rfl, rfl⟩
        go_wp2
        go_ret
        exact ⟨rfl, HBe.out⟩
      exact AllReadyH.nil
    exact AllReadyH.nil
  exact AllReadyH.nil
--A6E

end Go.Proofs.YtgdfdljgbogbnaaDoor.journal
