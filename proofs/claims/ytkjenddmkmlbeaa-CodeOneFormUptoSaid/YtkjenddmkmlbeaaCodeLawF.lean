/- The law CodeOneForm: for all bytes, kinds and texts of bulk at most the bound together it returns true and leaves its arguments as they were. -/
import Derived.Test.YtkjenddmkmlbeaaRows
import Derived.Test.YtkjenddmkmlbeaaCodeAwake
import Derived.Test.YtkjenddmkmlbeaaCodeReadK
import Derived.Test.YtkjenddmkmlbeaaCodeBackM
import Derived.Test.YtkjenddmkmlbeaaLift
import Derived.Test.YtkjenddmkmlbeaaCodeLift
import Derived.Deep.RegionHeld3
import Derived.Deep.Cut
import Derived.JoinedCond
namespace Go.Proofs.Ytkjenddmkmlbeaa.lawsF
open Go.ChangeShapes Go.WideShapes Go.ChangeAt Go.RowKit
open Go.Proofs.Ytkjenddmkmlbeaa.kit Go.Proofs.Ytkjenddmkmlbeaa.cm Go.Proofs.Ytkjenddmkmlbeaa.code Go.Proofs.Ytkjenddmkmlbeaa.lift
open Go.WideMaps Go.WideElems
open Go.ChangeMaps (open_string shut_string)
set_option linter.unusedVariables false
set_option linter.constructorNameAsVariable false

theorem flat4 : ∀ (fs : List Fld) (j : Nat) (hj : j < fs.length), (fs.flatMap fcells)[j * 4]? = some (.int .i64 fs[j].kind) ∧ (fs.flatMap fcells)[j * 4 + 1]? = some (.int .i64 fs[j].num) ∧ (fs.flatMap fcells)[j * 4 + 2]? = some (.string fs[j].text) ∧ (fs.flatMap fcells)[j * 4 + 3]? = some (.bool fs[j].is)
  | f :: fs, 0, _ => by simp [fcells]
  | f :: fs, j + 1, hj => by
    have := flat4 fs j (by simpa using hj)
    rw [List.flatMap_cons]
    have e : (fcells f).length = 4 := rfl
    refine ⟨?_, ?_, ?_, ?_⟩
    · rw [List.getElem?_append_right (by rw [e]; omega), e, show (j + 1) * 4 - 4 = j * 4 by omega]; exact this.1
    · rw [List.getElem?_append_right (by rw [e]; omega), e, show (j + 1) * 4 + 1 - 4 = j * 4 + 1 by omega]; exact this.2.1
    · rw [List.getElem?_append_right (by rw [e]; omega), e, show (j + 1) * 4 + 2 - 4 = j * 4 + 2 by omega]; exact this.2.2.1
    · rw [List.getElem?_append_right (by rw [e]; omega), e, show (j + 1) * 4 + 3 - 4 = j * 4 + 3 by omega]; exact this.2.2.2

theorem slf_own {W : World} {B : Nat} {v : Value} {fs : List Fld} (h : OwnF W B v fs) : SlF W v fs := by
  rcases h.2 with ⟨rfl, h0⟩ | ⟨g, cap, cur, rfl, hB, hg, hc, hm, hs, ht⟩
  · obtain rfl : fs = [] := List.eq_nil_of_length_eq_zero h0
    exact ⟨by simp, _, _, rfl, fun h => by simp at h⟩
  · refine ⟨by unfold maxLen at hm; omega, _, _, rfl, fun _ => ⟨g, 0, rfl, (Array.getElem?_eq_some_iff.1 hg).1, fun j hj => ?_⟩⟩
    obtain ⟨h1, h2, h3, h4⟩ := flat4 fs j hj
    have c1 := World.ownsRow.cells h (g := g) rfl _ _ h1
    have c2 := World.ownsRow.cells h (g := g) rfl _ _ h2
    have c3 := World.ownsRow.cells h (g := g) rfl _ _ h3
    have c4 := World.ownsRow.cells h (g := g) rfl _ _ h4
    rw [add_plain'] at c1 c2 c3 c4
    exact ⟨c1, c2, c3, c4⟩

theorem slb_below {W W' : World} {v : Value} {bs : List Nat} (h : SlB W v bs (fun _ => True)) (hb : Below W.heap.size W W') : SlB W' v bs (fun _ => True) := by
  obtain ⟨hl, a, cap, rfl, hle, hc⟩ := h
  refine ⟨hl, a, cap, rfl, hle, fun h0 => ?_⟩
  obtain ⟨b, off, rfl, hP, hlt, hcell⟩ := hc h0
  exact ⟨b, off, rfl, hP, Nat.lt_of_lt_of_le hlt hb.size, fun j hj => (hb.cell (p := ⟨b, _, none⟩) hlt).trans (hcell j hj)⟩

/-- The text of bytes. -/
def strB (l : List Nat) : ByteArray := strOfNums (l.map fun n : Nat => (n : Int))
theorem convI {w : World} {v : Value} {ns : List Nat} (h : SlI w .u8 v ns) : (convert 24 9 v).run Try.prog w = .ok (.string (strB ns)) w :=
  conv_bytes (P := Try.prog) 24 5 9 Try.underlying24 Try.underlying5 Try.underlying9 h
theorem strB_txtN (s : ByteArray) : strB (txtN s) = s := by
  have : (strB (txtN s)).data.toList = s.data.toList := by
    unfold strB txtN
    rw [strOfNums_data, List.map_map, List.map_map]
    apply List.ext_getElem
    · simp
    · intro i h1 h2; simp
  cases s with
  | mk d =>
    cases hs : strB (txtN { data := d }) with
    | mk d' =>
      rw [hs] at this
      congr 1
      exact Array.toList_inj.1 this
theorem fits_of {gs : List Fld} (h : ∀ g ∈ gs, code.Good 1048576 g) : fits gs = true := by
  unfold fits
  rw [List.all_eq_true]
  exact fun g hg => (h g hg).1

/-- A beginning of bytes. -/
theorem cut_read {w : World} {a : Option Addr} {cap : Nat} {bs : List Nat} (h : SlB w (.slice a bs.length cap) bs (fun _ => True)) (n : Nat) (hn : n ≤ bs.length) : SlI w .u8 (.slice a n cap) (bs.take n) := by
  obtain ⟨hl, a', cap', e, hle, hc⟩ := h
  cases e
  have e1 : (bs.take n).length = n := by rw [List.length_take]; omega
  refine ⟨by omega, a, cap, by rw [e1], fun h0 => ?_⟩
  obtain ⟨b, off, rfl, _, hlt, hcell⟩ := hc (by omega)
  refine ⟨b, off, rfl, fun j hj => ?_⟩
  rw [e1] at hj
  rw [hcell j (by omega)]
  simp [List.getD, hj]

set_option maxHeartbeats 8000000 in
set_option maxRecDepth 100000 in
theorem walkOne (bv kv : Value) (bs : List Nat) (ks : List Int) (s : ByteArray) (w : World) (hb : SlB w bv bs (fun _ => True)) (h8 : B8 bs) (hbl : bs.length ≤ 1048576) (hk : SlK w kv ks) (hkl : ks.length ≤ 1048576) (hs : s.size ≤ 1048576) :
    Calls Try.prog 4 #[bv, kv, .string s] w fun e w' => e = .returned (.bool true) ∧ Below w.heap.size w w' := by
  have HRead := Lib.hid (Read_any bv kv bs ks w hb h8 hk (by omega))
  have HK := Lib.hid hk; have HB8 := Lib.hid h8; have HBl := Lib.hid hbl; have HKl := Lib.hid hkl; have HS := Lib.hid hs
  obtain ⟨hl, a, cap, rfl, hle, hc⟩ := id hb
  have HB := Lib.hid hb
  have hs8 : B8 (txtN s) := by
    intro c hc
    obtain ⟨x, _, rfl⟩ := List.mem_map.1 hc
    exact x.toNat_lt
  have HS8 := Lib.hid hs8
  have hsl : (txtN s).length = s.size := by unfold txtN; rw [List.length_map, Array.length_toList]; rfl
  have HSl := Lib.hid hsl
  clear hk h8 hkl hs hb hc hs8 hsl
  have rest : ∀ W1 : World, Below w.heap.size w W1 → Calls Try.prog 11 #[.string s, kv] W1 (ReadKS W1 (rA rPart [] ks (txtN s))) := fun W1 h1 => ReadKey_any s kv ks W1 HS.out HS8.out (HK.out.below h1) (by have := HKl.out; omega)
  have HRest := Lib.hid rest
  clear rest
  go_enter Try.func4, Try.ntmps4
  go_wp2_with fail
  refine HRead.out.mono ?_
  rintro e w1 ⟨hb1, h1⟩
  have HB1 := Lib.hid hb1
  clear hb1 HRead
  cases hR : rA rField [] ks bs with
  | error er =>
    rw [hR] at h1
    obtain ⟨rfl, hne⟩ := h1
    have hne' : ((er : Int) == 0) = false := by rw [beq_eq_false_iff_ne]; exact hne
    clear hR hne
    go_upto_region 2 with fail
    go_quiet (fail)
    have HBW := Lib.hid (HB1.out.drewN' nq)
    go_wp2_with fail
    refine (HRest.out _ HBW.out).mono ?_
    rintro e w4 ⟨hb4, h4⟩
    have HB4 := Lib.hid ((HBW.out).trans (hb4.mono (HBW.out).size))
    clear hb4
    cases hK : rA rPart [] ks (txtN s) with
    | error er2 =>
      rw [hK] at h4
      obtain ⟨rfl, hne2⟩ := h4
      have hne3 : ((er2 : Int) != 0) = true := by rw [bne_iff_ne]; exact hne2
      clear hK hne2 HRest
      go_wp2_with fail
      refine (awake_any _).mono ?_
      rintro e w5 ⟨rfl, hb5⟩
      have HB5 := Lib.hid (HB4.out.trans (hb5.mono HB4.out.size))
      clear hb5
      go_wp2
      go_ret
      exact ⟨rfl, HB5.out⟩
    | ok p2 =>
      obtain ⟨fs2, rr2⟩ := p2
      rw [hK] at h4
      cases rr2 with
      | cons c2 rr2 =>
        have h5 : e = .returned (.tuple #[.slice none 0 0, .int .i64 10]) := h4
        subst h5
        clear hK HRest h4
        go_wp2_with fail
        refine (awake_any _).mono ?_
        rintro e w5 ⟨rfl, hb5⟩
        have HB5 := Lib.hid (HB4.out.trans (hb5.mono HB4.out.size))
        clear hb5
        go_wp2
        go_ret
        exact ⟨rfl, HB5.out⟩
      | nil =>
        obtain ⟨v4, rfl, ho4⟩ := h4
        obtain ⟨gs2, hgs2, hb2', hgood2⟩ := rA_back (wr := Fld.part) (fun k bs f r h8 hl h => rPart_back h8 hl h) ks [] (txtN s) fs2 [] HS8.out (by rw [HSl.out]; exact HS.out) hK
        rw [List.nil_append] at hgs2
        subst hgs2
        rw [List.append_nil] at hb2'
        have hkey : strOfNums ((keyL fs2).map fun n : Nat => (n : Int)) = s := by
          rw [keyL, if_pos (fits_of hgood2), ← hb2']
          exact strB_txtN s
        have hln2 : (fs2.flatMap Fld.part).length ≤ 800000000000 := by rw [← hb2', HSl.out]; have := HS.out; omega
        have HKey := Lib.hid (key_any v4 fs2 w4 (slf_own ho4) (fun f hf => (hgood2 f hf).2.1) hln2 (fun f hf => by have := (hgood2 f hf).2.2; omega))
        rw [hkey] at HKey
        clear hkey hln2 hgood2 hb2' ho4 hK HRest
        go_wp2_with fail
        refine HKey.out.mono ?_
        rintro e w6 ⟨rfl, hb6⟩
        have HB6 := Lib.hid (HB4.out.trans (hb6.mono HB4.out.size))
        clear hb6 HKey
        go_wp2_with fail
        refine (awake_any _).mono ?_
        rintro e w5 ⟨rfl, hb5⟩
        have HB5 := Lib.hid (HB6.out.trans (hb5.mono HB6.out.size))
        clear hb5
        go_wp2
        go_ret
        exact ⟨rfl, HB5.out⟩
  | ok p =>
    obtain ⟨fs, rr⟩ := p
    rw [hR] at h1
    obtain ⟨v1, rfl, ho1⟩ := h1
    obtain ⟨gs, hgs, hbytes, hgood⟩ := rA_back (wr := Fld.bytes) (fun k bs f r h8 hl h => rField_back h8 hl h) ks [] bs fs rr HB8.out HBl.out hR
    rw [List.nil_append] at hgs
    subst hgs
    obtain ⟨n, hn⟩ : ∃ n, (fs.flatMap Fld.bytes).length = n := ⟨_, rfl⟩
    have hlen : bs.length = n + rr.length := by rw [← hn, ← List.length_append, ← hbytes]
    have htake : bs.take n = fs.flatMap Fld.bytes := by rw [hbytes, ← hn, List.take_left']; rfl
    have hkeep : bytesL fs = bs.take n := by rw [bytesL, if_pos (fits_of hgood), htake]
    rw [show ((bs.length : Int) - (rr.length : Int)) = (n : Int) by omega]
    have HSF := Lib.hid (show SlF w1.drew v1 fs from (slf_own ho1).below ⟨rfl, rfl, rfl, Nat.le_refl _, fun _ _ => rfl⟩)
    have HOK := Lib.hid (fun f hf => (hgood f hf).2.1)
    have HTX := Lib.hid (fun f (hf : f ∈ fs) => (show f.text.size ≤ 100000000000 by have := (hgood f hf).2.2; omega))
    have HLEN : Hid ((fs.flatMap Fld.bytes).length ≤ 800000000000) := by unfold Hid; rw [hn]; omega
    have HCut : Hid (∀ W : World, Below w1.heap.size w1 W → (convert 24 9 (.slice a n cap)).run Try.prog W = .ok (.string (strB (bs.take n))) W) := fun W hW => convI (cut_read (slb_below (slb_below HB.out HB1.out) hW) n (by omega))
    have HKeep := Lib.hid hkeep
    have hn0 : decide ((n : Int) < 0) = false := by simp
    have hnl : decide (bs.length < n) = false := by simp; omega
    have hnc : (n : Int) ≤ cap := by omega
    have hcs1 : (convert 24 9 (.slice a n cap)).run Try.prog w1.drew = .ok (.string (strB (bs.take n))) w1.drew := HCut.out w1.drew ⟨rfl, rfl, rfl, Nat.le_refl _, fun _ _ => rfl⟩
    clear hR ho1 hbytes hgood hn hlen htake hkeep
    generalize bs.length = LB at *
    go_upto_region 2 with fail
    refine wp_region_any (by kernel_rfl) ?_
    change wpAny _ _ _ _ _ _ _ (World.drew _)
    refine wpAny_take (i := 0) (oi := { dst := some 19, op := Op.move (Operand.tmp 9), type := 28, pos := "law.go:115", after := #[], guard := none }) (v := ?_) rfl (by kernel_rfl) (by kernel_rfl) (by kernel_rfl) (fun _ _ _ h => h) (Or.inl ⟨by rfl, ?_⟩) ?_
    rotate_left 1
    · intro W
      go_simp
      try with_reducible rfl
    try simp only [Act.put, List.setIfInBounds_toArray, List.set_cons_zero, List.set_cons_succ]
    refine wpAny_take (i := 1) (oi := { dst := some 20, op := Op.binOp BinOp.eql 28 (Operand.tmp 19) (Operand.const (Value.int IntKind.i64 0)) 28, type := 4, pos := "law.go:115", after := #[{ on := 0, ground := Ground.data }], guard := none }) (v := ?_) rfl (by kernel_rfl) (by kernel_rfl) (by kernel_rfl) (fun _ _ _ h => h) (Or.inl ⟨by rfl, ?_⟩) ?_
    rotate_left 1
    · intro W
      go_simp
      try with_reducible rfl
    try simp only [Act.put, List.setIfInBounds_toArray, List.set_cons_zero, List.set_cons_succ]
    refine wpAny_take (i := 2) (oi := { dst := some 21, op := Op.move (Operand.tmp 20), type := 4, pos := "law.go:115", after := #[{ on := 1, ground := Ground.data }], guard := none }) (v := ?_) rfl (by kernel_rfl) (by kernel_rfl) (by kernel_rfl) (fun _ _ _ h => h) (Or.inl ⟨by rfl, ?_⟩) ?_
    rotate_left 1
    · intro W
      go_simp
      try with_reducible rfl
    try simp only [Act.put, List.setIfInBounds_toArray, List.set_cons_zero, List.set_cons_succ]
    refine wpAny_take (i := 3) (oi := { dst := some 22, op := Op.move (Operand.tmp 8), type := 3, pos := "law.go:115", after := #[{ on := 2, ground := Ground.guard }], guard := some (2, true) }) (v := ?_) rfl (by kernel_rfl) (by kernel_rfl) (by kernel_rfl) (fun _ _ _ h => h) (Or.inl ⟨by rfl, ?_⟩) ?_
    rotate_left 1
    · intro W
      go_simp
      try with_reducible rfl
    try simp only [Act.put, List.setIfInBounds_toArray, List.set_cons_zero, List.set_cons_succ]
    refine wpAny_take (i := 4) (oi := { dst := some 23, op := Op.binOp BinOp.lss 3 (Operand.tmp 22) (Operand.const (Value.int IntKind.i64 0)) 3, type := 4, pos := "law.go:115", after := #[{ on := 3, ground := Ground.data }, { on := 2, ground := Ground.guard }], guard := some (2, true) }) (v := ?_) rfl (by kernel_rfl) (by kernel_rfl) (by kernel_rfl) (fun _ _ _ h => h) (Or.inl ⟨by rfl, ?_⟩) ?_
    rotate_left 1
    · intro W
      go_simp
      try with_reducible rfl
    try simp only [Act.put, List.setIfInBounds_toArray, List.set_cons_zero, List.set_cons_succ]
    refine wpAny_take (i := 5) (oi := { dst := some 24, op := Op.move (Operand.tmp 23), type := 4, pos := "law.go:115", after := #[{ on := 4, ground := Ground.data }, { on := 2, ground := Ground.chain }, { on := 2, ground := Ground.guard }], guard := some (2, true) }) (v := ?_) rfl (by kernel_rfl) (by kernel_rfl) (by kernel_rfl) (fun _ _ _ h => h) (Or.inl ⟨by rfl, ?_⟩) ?_
    rotate_left 1
    · intro W
      go_simp
      try with_reducible rfl
    try simp only [Act.put, List.setIfInBounds_toArray, List.set_cons_zero, List.set_cons_succ]
    refine wpAny_take (i := 6) (oi := { dst := some 25, op := Op.move (Operand.tmp 8), type := 3, pos := "law.go:115", after := #[{ on := 5, ground := Ground.guard }], guard := some (5, false) }) (v := ?_) rfl (by kernel_rfl) (by kernel_rfl) (by kernel_rfl) (fun _ _ _ h => h) (Or.inl ⟨by rfl, ?_⟩) ?_
    rotate_left 1
    · intro W
      go_simp
      try with_reducible rfl
    try simp only [Act.put, List.setIfInBounds_toArray, List.set_cons_zero, List.set_cons_succ]
    refine wpAny_take (i := 7) (oi := { dst := some 26, op := Op.move (Operand.tmp 0), type := 24, pos := "law.go:115", after := #[{ on := 5, ground := Ground.guard }], guard := some (5, false) }) (v := ?_) rfl (by kernel_rfl) (by kernel_rfl) (by kernel_rfl) (fun _ _ _ h => h) (Or.inl ⟨by rfl, ?_⟩) ?_
    rotate_left 1
    · intro W
      go_simp
      try with_reducible rfl
    try simp only [Act.put, List.setIfInBounds_toArray, List.set_cons_zero, List.set_cons_succ]
    refine wpAny_take (i := 8) (oi := { dst := some 27, op := Op.call { callee := Callee.builtin Builtin.len, args := #[Operand.tmp 26], argTypes := #[24] }, type := 3, pos := "law.go:115", after := #[{ on := 7, ground := Ground.data }, { on := 5, ground := Ground.guard }], guard := some (5, false) }) (v := ?_) rfl (by kernel_rfl) (by kernel_rfl) (by kernel_rfl) (fun _ _ _ h => h) (Or.inl ⟨by rfl, ?_⟩) ?_
    rotate_left 1
    · intro W
      go_simp
      try with_reducible rfl
    try simp only [Act.put, List.setIfInBounds_toArray, List.set_cons_zero, List.set_cons_succ]
    refine wpAny_take (i := 9) (oi := { dst := some 28, op := Op.binOp BinOp.gtr 3 (Operand.tmp 25) (Operand.tmp 27) 3, type := 4, pos := "law.go:115", after := #[{ on := 6, ground := Ground.data }, { on := 8, ground := Ground.data }, { on := 5, ground := Ground.guard }], guard := some (5, false) }) (v := ?_) rfl (by kernel_rfl) (by kernel_rfl) (by kernel_rfl) (fun _ _ _ h => h) (Or.inl ⟨by rfl, ?_⟩) ?_
    rotate_left 1
    · intro W
      go_simp
      try with_reducible rfl
    try simp only [Act.put, List.setIfInBounds_toArray, List.set_cons_zero, List.set_cons_succ]
    refine wpAny_take (i := 10) (oi := { dst := some 29, op := Op.pick (Operand.tmp 24) (Operand.const (Value.bool true)) (Operand.tmp 28), type := 4, pos := "law.go:115", after := #[{ on := 5, ground := Ground.data }, { on := 9, ground := Ground.data }, { on := 2, ground := Ground.guard }], guard := some (2, true) }) (v := ?_) rfl (by kernel_rfl) (by kernel_rfl) (by kernel_rfl) (fun _ _ _ h => h) (Or.inl ⟨by rfl, ?_⟩) ?_
    rotate_left 1
    · intro W
      go_simp
      try with_reducible rfl
    try simp only [Act.put, List.setIfInBounds_toArray, List.set_cons_zero, List.set_cons_succ]
    refine wpAny_take (i := 11) (oi := { dst := some 30, op := Op.move (Operand.tmp 29), type := 4, pos := "law.go:115", after := #[{ on := 10, ground := Ground.data }, { on := 5, ground := Ground.chain }, { on := 2, ground := Ground.guard }], guard := some (2, true) }) (v := ?_) rfl (by kernel_rfl) (by kernel_rfl) (by kernel_rfl) (fun _ _ _ h => h) (Or.inl ⟨by rfl, ?_⟩) ?_
    rotate_left 1
    · intro W
      go_simp
      try with_reducible rfl
    try simp only [Act.put, List.setIfInBounds_toArray, List.set_cons_zero, List.set_cons_succ]
    refine wpAny_take (i := 12) (oi := { dst := some 31, op := Op.move (Operand.tmp 7), type := 22, pos := "law.go:115", after := #[{ on := 11, ground := Ground.guard }], guard := some (11, false) }) (v := ?_) rfl (by kernel_rfl) (by kernel_rfl) (by kernel_rfl) (fun _ _ _ h => h) (Or.inl ⟨by rfl, ?_⟩) ?_
    rotate_left 1
    · intro W
      go_simp
      try with_reducible rfl
    try simp only [Act.put, List.setIfInBounds_toArray, List.set_cons_zero, List.set_cons_succ]
    refine wpAny_take (i := 15) (oi := { dst := some 34, op := Op.move (Operand.tmp 0), type := 24, pos := "law.go:115", after := #[{ on := 11, ground := Ground.guard }], guard := some (11, false) }) (v := ?_) rfl (by kernel_rfl) (by kernel_rfl) (by kernel_rfl) (fun _ _ _ h => h) (Or.inl ⟨by rfl, ?_⟩) ?_
    rotate_left 1
    · intro W
      go_simp
      try with_reducible rfl
    try simp only [Act.put, List.setIfInBounds_toArray, List.set_cons_zero, List.set_cons_succ]
    refine wpAny_take (i := 16) (oi := { dst := some 35, op := Op.move (Operand.tmp 8), type := 3, pos := "law.go:115", after := #[{ on := 11, ground := Ground.guard }], guard := some (11, false) }) (v := ?_) rfl (by kernel_rfl) (by kernel_rfl) (by kernel_rfl) (fun _ _ _ h => h) (Or.inl ⟨by rfl, ?_⟩) ?_
    rotate_left 1
    · intro W
      go_simp
      try with_reducible rfl
    try simp only [Act.put, List.setIfInBounds_toArray, List.set_cons_zero, List.set_cons_succ]
    refine wpAny_take (i := 17) (oi := { dst := some 36, op := Op.slice 24 (Operand.tmp 34) none (some (Operand.tmp 35)) none, type := 24, pos := "law.go:115", after := #[{ on := 15, ground := Ground.data }, { on := 16, ground := Ground.data }, { on := 11, ground := Ground.guard }], guard := some (11, false) }) (v := ?_) rfl (by kernel_rfl) (by kernel_rfl) (by kernel_rfl) (fun _ _ _ h => h) (Or.inl ⟨by rfl, ?_⟩) ?_
    rotate_left 1
    · intro W
      go_simp
      try with_reducible rfl
    try simp only [Act.put, List.setIfInBounds_toArray, List.set_cons_zero, List.set_cons_succ]
    refine wpAny_ready (rs := [13, 18]) (by kernel_rfl) (by simp) ?_
    refine AllReady.cons (o := { dst := some 32, op := Op.call { callee := Callee.value (Operand.func 6), args := #[Operand.tmp 31], argTypes := #[22] }, type := 24, pos := "law.go:115", after := #[{ on := 12, ground := Ground.data }, { on := 11, ground := Ground.chain }, { on := 11, ground := Ground.guard }], guard := some (11, false) }) rfl (fun K hK => ?_) ?_
    · go_simp
      go_wp2_with (go_at_call 6; refine (fields_any _ fs _ HSF.out HOK.out HLEN.out HTX.out).mono ?_; rintro e w2 ⟨v2, rfl, ho2, hb2⟩; have hc2 := convI ho2.read; rw [HKeep.out] at hc2; have hcs2 := HCut.out w2 ⟨hb2.os, hb2.tape, hb2.output, hb2.size, hb2.block⟩; have HB2 := Lib.hid hb2; clear ho2 hb2)
      try simp only [Act.put, List.setIfInBounds_toArray, List.set_cons_zero, List.set_cons_succ]
      refine wpAny_ready (rs := [14, 18]) (by kernel_rfl) (by simp) ?_
      refine AllReady.cons (o := { dst := some 33, op := Op.convert 24 9 (Operand.tmp 32), type := 9, pos := "law.go:115", after := #[{ on := 13, ground := Ground.data }, { on := 11, ground := Ground.guard }], guard := some (11, false) }) rfl (fun K hK => ?_) ?_
      · go_simp
        refine hK _ _ ?_
        clear hK K
        try simp only [Act.put, List.setIfInBounds_toArray, List.set_cons_zero, List.set_cons_succ]
        refine wpAny_ready (rs := [18]) (by kernel_rfl) (by simp) ?_
        refine AllReady.cons (o := { dst := some 37, op := Op.convert 24 9 (Operand.tmp 36), type := 9, pos := "law.go:115", after := #[{ on := 17, ground := Ground.data }, { on := 11, ground := Ground.guard }], guard := some (11, false) }) rfl (fun K hK => ?_) ?_
        · go_simp
          refine hK _ _ ?_
          clear hK K
          try simp only [Act.put, List.setIfInBounds_toArray, List.set_cons_zero, List.set_cons_succ]
          refine wpAny_take (i := 19) (oi := { dst := some 38, op := Op.binOp BinOp.neq 9 (Operand.tmp 33) (Operand.tmp 37) 9, type := 4, pos := "law.go:115", after := #[{ on := 14, ground := Ground.data }, { on := 18, ground := Ground.data }, { on := 11, ground := Ground.guard }], guard := some (11, false) }) (v := ?_) rfl (by kernel_rfl) (by kernel_rfl) (by kernel_rfl) (fun _ _ _ h => h) (Or.inl ⟨by rfl, ?_⟩) ?_
          rotate_left 1
          · intro W
            go_simp
            try with_reducible rfl
          try simp only [Act.put, List.setIfInBounds_toArray, List.set_cons_zero, List.set_cons_succ]
          refine wpAny_take (i := 20) (oi := { dst := some 39, op := Op.pick (Operand.tmp 30) (Operand.const (Value.bool true)) (Operand.tmp 38), type := 4, pos := "law.go:115", after := #[{ on := 11, ground := Ground.data }, { on := 19, ground := Ground.data }, { on := 2, ground := Ground.guard }], guard := some (2, true) }) (v := ?_) rfl (by kernel_rfl) (by kernel_rfl) (by kernel_rfl) (fun _ _ _ h => h) (Or.inl ⟨by rfl, ?_⟩) ?_
          rotate_left 1
          · intro W
            go_simp
            try with_reducible rfl
          try simp only [Act.put, List.setIfInBounds_toArray, List.set_cons_zero, List.set_cons_succ]
          refine wpAny_take (i := 21) (oi := { dst := some 40, op := Op.pick (Operand.tmp 21) (Operand.tmp 39) (Operand.const (Value.bool false)), type := 4, pos := "law.go:115", after := #[{ on := 2, ground := Ground.data }, { on := 20, ground := Ground.data }], guard := none }) (v := ?_) rfl (by kernel_rfl) (by kernel_rfl) (by kernel_rfl) (fun _ _ _ h => h) (Or.inl ⟨by rfl, ?_⟩) ?_
          rotate_left 1
          · intro W
            go_simp
            try with_reducible rfl
          try simp only [Act.put, List.setIfInBounds_toArray, List.set_cons_zero, List.set_cons_succ]
          refine wpAny_done (by kernel_rfl) ?_ _
          have HBW := Lib.hid (HB1.out.trans ((show Below w1.heap.size w1 w2 from ⟨HB2.out.os, HB2.out.tape, HB2.out.output, HB2.out.size, HB2.out.block⟩).mono HB1.out.size))
          clear hc2 hcs1 HB2
          go_wp2_with fail
          refine (HRest.out _ HBW.out).mono ?_
          rintro e w4 ⟨hb4, h4⟩
          have HB4 := Lib.hid ((HBW.out).trans (hb4.mono (HBW.out).size))
          clear hb4
          cases hK : rA rPart [] ks (txtN s) with
          | error er2 =>
            rw [hK] at h4
            obtain ⟨rfl, hne2⟩ := h4
            have hne3 : ((er2 : Int) != 0) = true := by rw [bne_iff_ne]; exact hne2
            clear hK hne2 HRest
            go_wp2_with fail
            refine (awake_any _).mono ?_
            rintro e w5 ⟨rfl, hb5⟩
            have HB5 := Lib.hid (HB4.out.trans (hb5.mono HB4.out.size))
            clear hb5
            go_wp2
            go_ret
            exact ⟨rfl, HB5.out⟩
          | ok p2 =>
            obtain ⟨fs2, rr2⟩ := p2
            rw [hK] at h4
            cases rr2 with
            | cons c2 rr2 =>
              have h5 : e = .returned (.tuple #[.slice none 0 0, .int .i64 10]) := h4
              subst h5
              clear hK HRest h4
              go_wp2_with fail
              refine (awake_any _).mono ?_
              rintro e w5 ⟨rfl, hb5⟩
              have HB5 := Lib.hid (HB4.out.trans (hb5.mono HB4.out.size))
              clear hb5
              go_wp2
              go_ret
              exact ⟨rfl, HB5.out⟩
            | nil =>
              obtain ⟨v4, rfl, ho4⟩ := h4
              obtain ⟨gs2, hgs2, hb2', hgood2⟩ := rA_back (wr := Fld.part) (fun k bs f r h8 hl h => rPart_back h8 hl h) ks [] (txtN s) fs2 [] HS8.out (by rw [HSl.out]; exact HS.out) hK
              rw [List.nil_append] at hgs2
              subst hgs2
              rw [List.append_nil] at hb2'
              have hkey : strOfNums ((keyL fs2).map fun n : Nat => (n : Int)) = s := by
                rw [keyL, if_pos (fits_of hgood2), ← hb2']
                exact strB_txtN s
              have hln2 : (fs2.flatMap Fld.part).length ≤ 800000000000 := by rw [← hb2', HSl.out]; have := HS.out; omega
              have HKey := Lib.hid (key_any v4 fs2 w4 (slf_own ho4) (fun f hf => (hgood2 f hf).2.1) hln2 (fun f hf => by have := (hgood2 f hf).2.2; omega))
              rw [hkey] at HKey
              clear hkey hln2 hgood2 hb2' ho4 hK HRest
              go_wp2_with fail
              refine HKey.out.mono ?_
              rintro e w6 ⟨rfl, hb6⟩
              have HB6 := Lib.hid (HB4.out.trans (hb6.mono HB4.out.size))
              clear hb6 HKey
              go_wp2_with fail
              refine (awake_any _).mono ?_
              rintro e w5 ⟨rfl, hb5⟩
              have HB5 := Lib.hid (HB6.out.trans (hb5.mono HB6.out.size))
              clear hb5
              go_wp2
              go_ret
              exact ⟨rfl, HB5.out⟩
        exact AllReady.nil
      refine AllReady.cons (o := { dst := some 37, op := Op.convert 24 9 (Operand.tmp 36), type := 9, pos := "law.go:115", after := #[{ on := 17, ground := Ground.data }, { on := 11, ground := Ground.guard }], guard := some (11, false) }) rfl (fun K hK => ?_) ?_
      · go_simp
        refine hK _ _ ?_
        clear hK K
        try simp only [Act.put, List.setIfInBounds_toArray, List.set_cons_zero, List.set_cons_succ]
        refine wpAny_ready (rs := [14]) (by kernel_rfl) (by simp) ?_
        refine AllReady.cons (o := { dst := some 33, op := Op.convert 24 9 (Operand.tmp 32), type := 9, pos := "law.go:115", after := #[{ on := 13, ground := Ground.data }, { on := 11, ground := Ground.guard }], guard := some (11, false) }) rfl (fun K hK => ?_) ?_
        · go_simp
          refine hK _ _ ?_
          clear hK K
          try simp only [Act.put, List.setIfInBounds_toArray, List.set_cons_zero, List.set_cons_succ]
          refine wpAny_take (i := 19) (oi := { dst := some 38, op := Op.binOp BinOp.neq 9 (Operand.tmp 33) (Operand.tmp 37) 9, type := 4, pos := "law.go:115", after := #[{ on := 14, ground := Ground.data }, { on := 18, ground := Ground.data }, { on := 11, ground := Ground.guard }], guard := some (11, false) }) (v := ?_) rfl (by kernel_rfl) (by kernel_rfl) (by kernel_rfl) (fun _ _ _ h => h) (Or.inl ⟨by rfl, ?_⟩) ?_
          rotate_left 1
          · intro W
            go_simp
            try with_reducible rfl
          try simp only [Act.put, List.setIfInBounds_toArray, List.set_cons_zero, List.set_cons_succ]
          refine wpAny_take (i := 20) (oi := { dst := some 39, op := Op.pick (Operand.tmp 30) (Operand.const (Value.bool true)) (Operand.tmp 38), type := 4, pos := "law.go:115", after := #[{ on := 11, ground := Ground.data }, { on := 19, ground := Ground.data }, { on := 2, ground := Ground.guard }], guard := some (2, true) }) (v := ?_) rfl (by kernel_rfl) (by kernel_rfl) (by kernel_rfl) (fun _ _ _ h => h) (Or.inl ⟨by rfl, ?_⟩) ?_
          rotate_left 1
          · intro W
            go_simp
            try with_reducible rfl
          try simp only [Act.put, List.setIfInBounds_toArray, List.set_cons_zero, List.set_cons_succ]
          refine wpAny_take (i := 21) (oi := { dst := some 40, op := Op.pick (Operand.tmp 21) (Operand.tmp 39) (Operand.const (Value.bool false)), type := 4, pos := "law.go:115", after := #[{ on := 2, ground := Ground.data }, { on := 20, ground := Ground.data }], guard := none }) (v := ?_) rfl (by kernel_rfl) (by kernel_rfl) (by kernel_rfl) (fun _ _ _ h => h) (Or.inl ⟨by rfl, ?_⟩) ?_
          rotate_left 1
          · intro W
            go_simp
            try with_reducible rfl
          try simp only [Act.put, List.setIfInBounds_toArray, List.set_cons_zero, List.set_cons_succ]
          refine wpAny_done (by kernel_rfl) ?_ _
          have HBW := Lib.hid (HB1.out.trans ((show Below w1.heap.size w1 w2 from ⟨HB2.out.os, HB2.out.tape, HB2.out.output, HB2.out.size, HB2.out.block⟩).mono HB1.out.size))
          clear hc2 hcs1 HB2
          go_wp2_with fail
          refine (HRest.out _ HBW.out).mono ?_
          rintro e w4 ⟨hb4, h4⟩
          have HB4 := Lib.hid ((HBW.out).trans (hb4.mono (HBW.out).size))
          clear hb4
          cases hK : rA rPart [] ks (txtN s) with
          | error er2 =>
            rw [hK] at h4
            obtain ⟨rfl, hne2⟩ := h4
            have hne3 : ((er2 : Int) != 0) = true := by rw [bne_iff_ne]; exact hne2
            clear hK hne2 HRest
            go_wp2_with fail
            refine (awake_any _).mono ?_
            rintro e w5 ⟨rfl, hb5⟩
            have HB5 := Lib.hid (HB4.out.trans (hb5.mono HB4.out.size))
            clear hb5
            go_wp2
            go_ret
            exact ⟨rfl, HB5.out⟩
          | ok p2 =>
            obtain ⟨fs2, rr2⟩ := p2
            rw [hK] at h4
            cases rr2 with
            | cons c2 rr2 =>
              have h5 : e = .returned (.tuple #[.slice none 0 0, .int .i64 10]) := h4
              subst h5
              clear hK HRest h4
              go_wp2_with fail
              refine (awake_any _).mono ?_
              rintro e w5 ⟨rfl, hb5⟩
              have HB5 := Lib.hid (HB4.out.trans (hb5.mono HB4.out.size))
              clear hb5
              go_wp2
              go_ret
              exact ⟨rfl, HB5.out⟩
            | nil =>
              obtain ⟨v4, rfl, ho4⟩ := h4
              obtain ⟨gs2, hgs2, hb2', hgood2⟩ := rA_back (wr := Fld.part) (fun k bs f r h8 hl h => rPart_back h8 hl h) ks [] (txtN s) fs2 [] HS8.out (by rw [HSl.out]; exact HS.out) hK
              rw [List.nil_append] at hgs2
              subst hgs2
              rw [List.append_nil] at hb2'
              have hkey : strOfNums ((keyL fs2).map fun n : Nat => (n : Int)) = s := by
                rw [keyL, if_pos (fits_of hgood2), ← hb2']
                exact strB_txtN s
              have hln2 : (fs2.flatMap Fld.part).length ≤ 800000000000 := by rw [← hb2', HSl.out]; have := HS.out; omega
              have HKey := Lib.hid (key_any v4 fs2 w4 (slf_own ho4) (fun f hf => (hgood2 f hf).2.1) hln2 (fun f hf => by have := (hgood2 f hf).2.2; omega))
              rw [hkey] at HKey
              clear hkey hln2 hgood2 hb2' ho4 hK HRest
              go_wp2_with fail
              refine HKey.out.mono ?_
              rintro e w6 ⟨rfl, hb6⟩
              have HB6 := Lib.hid (HB4.out.trans (hb6.mono HB4.out.size))
              clear hb6 HKey
              go_wp2_with fail
              refine (awake_any _).mono ?_
              rintro e w5 ⟨rfl, hb5⟩
              have HB5 := Lib.hid (HB6.out.trans (hb5.mono HB6.out.size))
              clear hb5
              go_wp2
              go_ret
              exact ⟨rfl, HB5.out⟩
        exact AllReady.nil
      exact AllReady.nil
    refine AllReady.cons (o := { dst := some 37, op := Op.convert 24 9 (Operand.tmp 36), type := 9, pos := "law.go:115", after := #[{ on := 17, ground := Ground.data }, { on := 11, ground := Ground.guard }], guard := some (11, false) }) rfl (fun K hK => ?_) ?_
    · go_simp
      refine hK _ _ ?_
      clear hK K
      try simp only [Act.put, List.setIfInBounds_toArray, List.set_cons_zero, List.set_cons_succ]
      refine wpAny_ready (rs := [13]) (by kernel_rfl) (by simp) ?_
      refine AllReady.cons (o := { dst := some 32, op := Op.call { callee := Callee.value (Operand.func 6), args := #[Operand.tmp 31], argTypes := #[22] }, type := 24, pos := "law.go:115", after := #[{ on := 12, ground := Ground.data }, { on := 11, ground := Ground.chain }, { on := 11, ground := Ground.guard }], guard := some (11, false) }) rfl (fun K hK => ?_) ?_
      · go_simp
        go_wp2_with (go_at_call 6; refine (fields_any _ fs _ HSF.out HOK.out HLEN.out HTX.out).mono ?_; rintro e w2 ⟨v2, rfl, ho2, hb2⟩; have hc2 := convI ho2.read; rw [HKeep.out] at hc2; have hcs2 := HCut.out w2 ⟨hb2.os, hb2.tape, hb2.output, hb2.size, hb2.block⟩; have HB2 := Lib.hid hb2; clear ho2 hb2)
        try simp only [Act.put, List.setIfInBounds_toArray, List.set_cons_zero, List.set_cons_succ]
        refine wpAny_ready (rs := [14]) (by kernel_rfl) (by simp) ?_
        refine AllReady.cons (o := { dst := some 33, op := Op.convert 24 9 (Operand.tmp 32), type := 9, pos := "law.go:115", after := #[{ on := 13, ground := Ground.data }, { on := 11, ground := Ground.guard }], guard := some (11, false) }) rfl (fun K hK => ?_) ?_
        · go_simp
          refine hK _ _ ?_
          clear hK K
          try simp only [Act.put, List.setIfInBounds_toArray, List.set_cons_zero, List.set_cons_succ]
          refine wpAny_take (i := 19) (oi := { dst := some 38, op := Op.binOp BinOp.neq 9 (Operand.tmp 33) (Operand.tmp 37) 9, type := 4, pos := "law.go:115", after := #[{ on := 14, ground := Ground.data }, { on := 18, ground := Ground.data }, { on := 11, ground := Ground.guard }], guard := some (11, false) }) (v := ?_) rfl (by kernel_rfl) (by kernel_rfl) (by kernel_rfl) (fun _ _ _ h => h) (Or.inl ⟨by rfl, ?_⟩) ?_
          rotate_left 1
          · intro W
            go_simp
            try with_reducible rfl
          try simp only [Act.put, List.setIfInBounds_toArray, List.set_cons_zero, List.set_cons_succ]
          refine wpAny_take (i := 20) (oi := { dst := some 39, op := Op.pick (Operand.tmp 30) (Operand.const (Value.bool true)) (Operand.tmp 38), type := 4, pos := "law.go:115", after := #[{ on := 11, ground := Ground.data }, { on := 19, ground := Ground.data }, { on := 2, ground := Ground.guard }], guard := some (2, true) }) (v := ?_) rfl (by kernel_rfl) (by kernel_rfl) (by kernel_rfl) (fun _ _ _ h => h) (Or.inl ⟨by rfl, ?_⟩) ?_
          rotate_left 1
          · intro W
            go_simp
            try with_reducible rfl
          try simp only [Act.put, List.setIfInBounds_toArray, List.set_cons_zero, List.set_cons_succ]
          refine wpAny_take (i := 21) (oi := { dst := some 40, op := Op.pick (Operand.tmp 21) (Operand.tmp 39) (Operand.const (Value.bool false)), type := 4, pos := "law.go:115", after := #[{ on := 2, ground := Ground.data }, { on := 20, ground := Ground.data }], guard := none }) (v := ?_) rfl (by kernel_rfl) (by kernel_rfl) (by kernel_rfl) (fun _ _ _ h => h) (Or.inl ⟨by rfl, ?_⟩) ?_
          rotate_left 1
          · intro W
            go_simp
            try with_reducible rfl
          try simp only [Act.put, List.setIfInBounds_toArray, List.set_cons_zero, List.set_cons_succ]
          refine wpAny_done (by kernel_rfl) ?_ _
          have HBW := Lib.hid (HB1.out.trans ((show Below w1.heap.size w1 w2 from ⟨HB2.out.os, HB2.out.tape, HB2.out.output, HB2.out.size, HB2.out.block⟩).mono HB1.out.size))
          clear hc2 hcs1 HB2
          go_wp2_with fail
          refine (HRest.out _ HBW.out).mono ?_
          rintro e w4 ⟨hb4, h4⟩
          have HB4 := Lib.hid ((HBW.out).trans (hb4.mono (HBW.out).size))
          clear hb4
          cases hK : rA rPart [] ks (txtN s) with
          | error er2 =>
            rw [hK] at h4
            obtain ⟨rfl, hne2⟩ := h4
            have hne3 : ((er2 : Int) != 0) = true := by rw [bne_iff_ne]; exact hne2
            clear hK hne2 HRest
            go_wp2_with fail
            refine (awake_any _).mono ?_
            rintro e w5 ⟨rfl, hb5⟩
            have HB5 := Lib.hid (HB4.out.trans (hb5.mono HB4.out.size))
            clear hb5
            go_wp2
            go_ret
            exact ⟨rfl, HB5.out⟩
          | ok p2 =>
            obtain ⟨fs2, rr2⟩ := p2
            rw [hK] at h4
            cases rr2 with
            | cons c2 rr2 =>
              have h5 : e = .returned (.tuple #[.slice none 0 0, .int .i64 10]) := h4
              subst h5
              clear hK HRest h4
              go_wp2_with fail
              refine (awake_any _).mono ?_
              rintro e w5 ⟨rfl, hb5⟩
              have HB5 := Lib.hid (HB4.out.trans (hb5.mono HB4.out.size))
              clear hb5
              go_wp2
              go_ret
              exact ⟨rfl, HB5.out⟩
            | nil =>
              obtain ⟨v4, rfl, ho4⟩ := h4
              obtain ⟨gs2, hgs2, hb2', hgood2⟩ := rA_back (wr := Fld.part) (fun k bs f r h8 hl h => rPart_back h8 hl h) ks [] (txtN s) fs2 [] HS8.out (by rw [HSl.out]; exact HS.out) hK
              rw [List.nil_append] at hgs2
              subst hgs2
              rw [List.append_nil] at hb2'
              have hkey : strOfNums ((keyL fs2).map fun n : Nat => (n : Int)) = s := by
                rw [keyL, if_pos (fits_of hgood2), ← hb2']
                exact strB_txtN s
              have hln2 : (fs2.flatMap Fld.part).length ≤ 800000000000 := by rw [← hb2', HSl.out]; have := HS.out; omega
              have HKey := Lib.hid (key_any v4 fs2 w4 (slf_own ho4) (fun f hf => (hgood2 f hf).2.1) hln2 (fun f hf => by have := (hgood2 f hf).2.2; omega))
              rw [hkey] at HKey
              clear hkey hln2 hgood2 hb2' ho4 hK HRest
              go_wp2_with fail
              refine HKey.out.mono ?_
              rintro e w6 ⟨rfl, hb6⟩
              have HB6 := Lib.hid (HB4.out.trans (hb6.mono HB4.out.size))
              clear hb6 HKey
              go_wp2_with fail
              refine (awake_any _).mono ?_
              rintro e w5 ⟨rfl, hb5⟩
              have HB5 := Lib.hid (HB6.out.trans (hb5.mono HB6.out.size))
              clear hb5
              go_wp2
              go_ret
              exact ⟨rfl, HB5.out⟩
        exact AllReady.nil
      exact AllReady.nil
    exact AllReady.nil

theorem own : ownKnob Try.prog.godebug = none := by kernel_rfl
theorem laidOut : laidOutB Try.prog = true := by kernel_rfl
theorem cu8 : Try.prog.cellsOf 5 = 1 := by kernel_rfl
theorem cint : Try.prog.cellsOf 3 = 1 := by kernel_rfl

theorem bulkAll_len {H : Type} : ∀ l : List (DataW H), l.length ≤ Rows.uptoBulkAll l
  | [] => by simp [Rows.uptoBulkAll]
  | d :: l => by
    have := bulkAll_len l
    have h1 : 1 ≤ Rows.uptoBulk d := by
      cases d with
      | lit x => cases x <;> simp [Rows.uptoBulk]
      | nil => simp [Rows.uptoBulk]
      | ptr d => simp [Rows.uptoBulk]
      | slice e sp => simp [Rows.uptoBulk]
      | agg p => simp [Rows.uptoBulk]
      | iface t d => simp [Rows.uptoBulk]
      | map e => simp [Rows.uptoBulk]
      | held h => simp [Rows.uptoBulk]
    simp only [Rows.uptoBulkAll, List.length_cons]; omega

/-- Bytes that came in. -/
theorem bytesB_open {H : Type} {enc : TypeId × Value → H} {W : World} {r : Reach} {base : Nat} {v : Value} {d : DataW H} {p : List MemPlace}
    (hval : Value.okWide Try.prog W r base 24 v) (h : DataW.Trod enc Try.prog W 0 (fun _ => true) true 24 v d p) (hb : Rows.uptoBulk d ≤ 1048576) :
    ∃ ns : List Nat, SlB W v ns (fun _ => True) ∧ B8 ns ∧ ns.length + 1 ≤ Rows.uptoBulk d := by
  obtain ⟨a0, len, cap, rfl⟩ := okWide_slice Try.underlying24 hval
  obtain ⟨fuel, hf⟩ := h
  have h0 := fun n h => (u8_pos n h).1
  rcases open_ints Try.underlying24 Try.underlying5 cu8 hf with ⟨hcs, hx⟩ | ⟨a, len', cap', zs, hcs, _, hl, hm, hzl, hx, hcell, hwz⟩
  · simp [Value.cells] at hcs
    obtain ⟨rfl, rfl, rfl⟩ := hcs
    simp only [Prod.mk.injEq] at hx
    obtain ⟨rfl, rfl⟩ := hx
    exact ⟨[], ⟨by simp, _, _, rfl, by simp, fun h => by simp at h⟩, by intro c hc; simp at hc, by simp [Rows.uptoBulk]⟩
  · simp [Value.cells] at hcs
    obtain ⟨rfl, rfl, rfl⟩ := hcs
    simp only [if_true] at hzl
    simp only [Prod.mk.injEq] at hx
    obtain ⟨rfl, rfl⟩ := hx
    have h3 : ((zs.take len).map Int.toNat).length = len := by simp; omega
    have h2 : (lits (H := H) .u8 (zs.take len)).length = len := by simp [lits]; omega
    have h5 := bulkAll_len (lits (H := H) .u8 (zs.take len))
    rw [h2] at h5
    have hbk : len + 1 ≤ Rows.uptoBulk (DataW.slice (lits (H := H) .u8 (zs.take len)) (lits .u8 (zs.drop len))) := by
      simp only [Rows.uptoBulk]; omega
    have hI := SlI.of_open (k := .u8) hm hl hzl hcell hwz h0
    obtain ⟨_, a', c', e, hc⟩ := hI
    injection e with e1 e2 e3
    subst e1
    refine ⟨(zs.take len).map Int.toNat, ⟨by rw [h3]; omega, some a, cap, by rw [h3], by rw [h3]; exact hl, fun hp => ?_⟩, ?_, by rw [h3]; exact hbk⟩
    · obtain ⟨b, off, e2, hc2⟩ := hc hp
      exact ⟨b, off, e2, trivial, lift.cell?_lt (a := ⟨b, off + 0, none⟩) (hc2 0 hp), hc2⟩
    · intro n hn
      obtain ⟨z, hz1, rfl⟩ := List.mem_map.1 hn
      have := u8_pos z (hwz z (List.mem_of_mem_take hz1))
      omega

/-- Kinds that came in. -/
theorem kinds_open {H : Type} {enc : TypeId × Value → H} {W : World} {r : Reach} {base : Nat} {v : Value} {d : DataW H} {p : List MemPlace}
    (hval : Value.okWide Try.prog W r base 31 v) (h : DataW.Trod enc Try.prog W 0 (fun _ => true) true 31 v d p) :
    ∃ ks : List Int, SlK W v ks ∧ ks.length + 1 ≤ Rows.uptoBulk d := by
  obtain ⟨a0, len, cap, rfl⟩ := okWide_slice Try.underlying31 hval
  obtain ⟨fuel, hf⟩ := h
  rcases open_ints Try.underlying31 Try.underlying3 cint hf with ⟨hcs, hx⟩ | ⟨a, len', cap', zs, hcs, _, hl, hm, hzl, hx, hcell, hwz⟩
  · simp [Value.cells] at hcs
    obtain ⟨rfl, rfl, rfl⟩ := hcs
    simp only [Prod.mk.injEq] at hx
    obtain ⟨rfl, rfl⟩ := hx
    exact ⟨[], ⟨by simp, _, _, rfl, fun h => by simp at h⟩, by simp [Rows.uptoBulk]⟩
  · simp [Value.cells] at hcs
    obtain ⟨rfl, rfl, rfl⟩ := hcs
    simp only [if_true] at hzl
    simp only [Prod.mk.injEq] at hx
    obtain ⟨rfl, rfl⟩ := hx
    have h3 : (zs.take len).length = len := by simp; omega
    have h2 : (lits (H := H) .i64 (zs.take len)).length = len := by simp [lits]; omega
    have h5 := bulkAll_len (lits (H := H) .i64 (zs.take len))
    rw [h2] at h5
    refine ⟨zs.take len, ⟨by rw [h3]; unfold maxLen at hm; omega, some a, cap, by rw [h3], fun hp => ?_⟩, by rw [h3]; simp only [Rows.uptoBulk]; omega⟩
    rw [h3] at hp ⊢
    obtain ⟨b, off, spot⟩ := a
    obtain rfl : spot = none := by simpa [Addr.add] using World.cell?_spot (hcell 0 (by omega))
    refine ⟨b, off, rfl, fun j hj => ?_⟩
    rw [← add_plain', hcell j (by omega)]
    have hj2 : j < zs.length := by omega
    simp [List.getD, hj, hj2]

set_option maxRecDepth 100000 in
theorem liftedOne (os : Os) (started : os.Started) (H : Type) (enc : TypeId × Value → H) (F : Stop.Interp) :
    ReturnsInHanded {} Try.checked os 4 .any ((Rows.OpenSpec.upto Rows.codeOneFormSpec).pre6 enc Try.prog Try.f4 Rows.codeOneFormUptoRow.domain false) (((Rows.OpenSpec.upto Rows.codeOneFormSpec).at F).post enc Try.prog Try.f4 false true false false) := by
  refine lawUpto (C := Try.checked) (s := Rows.codeOneFormSpec) own started (by kernel_rfl) Try.func4
    (OpenSpec.witness (enc := enc) (C := Try.checked) (s := Rows.OpenSpec.upto Rows.codeOneFormSpec) (k := Rows.uptoSmall) rfl false ⟨#[], #[.slice none 0 0, .slice none 0 0, .string .empty], []⟩ 8 (by kernel_rfl) (by kernel_rfl) (by kernel_rfl)
      (x := ([.nil, .nil, .lit (.string [])], [], [])) (by kernel_rfl) rfl (by kernel_rfl)) laidOut (by kernel_rfl) 4 Try.underlying4 (by kernel_rfl) rfl ?_ ?_
  · intro ds hd
    match ds, hd with
    | [_, _, _], _ => rfl
  · intro W base args ds ps hg hb
    have hA : DataW.TrodAll enc Try.prog W 0 (fun _ => true) true Try.f4.params.toList args.toList ds ps := hg.read
    have hval : ∀ (j : Nat) t v, Try.f4.params[j]? = some t → args[j]? = some v → Value.okWide Try.prog W .any base t v := hg.ok
    rw [Try.params4] at hA hval
    obtain ⟨v0, vs0, d0, ds0, p0, q0, hargs, rfl, rfl, h0, r0⟩ := trodAll_cons hA
    obtain ⟨v1, vs1, d1, ds1, p1, q1, rfl, rfl, rfl, h1, r1⟩ := trodAll_cons r0
    obtain ⟨v2, vs2, d2, ds2, p2, q2, rfl, rfl, rfl, h2, r2⟩ := trodAll_cons r1
    obtain ⟨rfl, rfl, rfl⟩ := trodAll_nil r2
    obtain rfl : args = #[v0, v1, v2] := by cases args; simp_all
    simp only [Rows.uptoBulkAll] at hb
    obtain ⟨bs, hs0, h8, hl0⟩ := bytesB_open (hval 0 24 v0 rfl rfl) h0 (by omega)
    obtain ⟨ks, hs1, hl1⟩ := kinds_open (hval 1 31 v1 rfl rfl) h1
    obtain ⟨s, rfl, rfl, rfl, hs⟩ := open_string Try.underlying9 (hval 2 9 v2 rfl rfl) h2
    simp only [Rows.uptoBulk] at hb
    have hsz : s.data.toList.length = s.size := by rw [Array.length_toList]; rfl
    exact walkOne v0 v1 bs ks s W hs0 h8 (by omega) hs1 (by omega) (by omega)

theorem one_holds : Rows.CodeOneFormUptoSaid :=
  OpenClaim.holds_of_cond 4 Try.f4 rfl rfl rfl rfl rfl rfl rfl ⟨rfl, rfl, rfl, rfl, rfl⟩ rfl rfl rfl rfl rfl (by kernel_rfl) Try.func4 (by kernel_rfl)
    (of_decide_eq_true (by kernel_rfl)) (by unfold Func.isWrapper; first | (rw [if_pos (by decide +kernel)]; kernel_rfl) | (rw [if_neg (by decide +kernel)]; exact ⟨rfl, rfl⟩))
    (fun os started H enc _ F => liftedOne os started H enc F)

#print axioms one_holds
end Go.Proofs.Ytkjenddmkmlbeaa.lawsF
