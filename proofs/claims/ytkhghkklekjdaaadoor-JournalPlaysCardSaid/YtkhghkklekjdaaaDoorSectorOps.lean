/- What a device does: Flush, Lose, Write, Read. -/
import Derived.Test.YtkhghkklekjdaaaDoorRows
import Derived.Test.YtkhghkklekjdaaaDoorSectorSettle
namespace Go.Proofs.YtkhghkklekjdaaaDoor.sector
open Go.RowKit
open Go.Proofs.YtkhghkklekjdaaaDoor.kit Go.Proofs.YtkhghkklekjdaaaDoor.own
set_option linter.unusedVariables false

theorem Lies.drew {w : World} {Z : Nat → Prop} {d : Nat} {m : Dev} {vo vb vl : Value} (h : Lies w Z d m vo vb vl) : Lies w.drew Z d m vo vb vl := h.stays (fun _ _ => rfl) (Nat.le_refl _)
theorem DevAt.drew {w : World} {Z : Nat → Prop} {d : Nat} {m : Dev} (h : DevAt w Z d m) : DevAt w.drew Z d m := h.stays (fun _ _ => rfl) (Nat.le_refl _)

def allBits : Nat := 18446744073709551615
def flushed (m : Dev) : Dev := { settled m allBits with fs := m.fs + 1 }
theorem flushed_ok {m : Dev} (h : m.Ok) (hf : m.fs + 1 < 4611686018427387904) : (flushed m).Ok := by
  have := settled_ok h allBits
  exact ⟨this.n, this.laid, this.laidLt, this.cache, this.once, this.cut, this.ws, hf⟩

set_option maxRecDepth 100000 in
theorem Flush_dead (w : World) (Z : Nat → Prop) (d : Nat) (m : Dev) (h : DevAt w Z d m) (hp : m.power = false) :
    Calls Tryd.prog 58 #[.pointer (some ⟨d, 0, none⟩)] w fun e w' => e = .returned (.int .i64 22) ∧ w = w' := by
  have HD := Lib.hid (Dead_off w Z d m h hp)
  clear h
  go_enter Tryd.func58, Tryd.ntmps58
  go_wp2_with fail
  refine HD.out.mono ?_
  rintro e w' ⟨rfl, rfl⟩
  go_wp2
  go_ret
  exact ⟨rfl, rfl⟩

set_option maxHeartbeats 1000000 in
set_option maxRecDepth 100000 in
theorem Flush_on (w : World) (Z : Nat → Prop) (d : Nat) (m : Dev) (h : DevAt w Z d m) (hp : m.power = true) (hf : m.fs + 1 < 4611686018427387904) :
    Calls Tryd.prog 58 #[.pointer (some ⟨d, 0, none⟩)] w (Does0 w Z d (flushed m) (.returned (.int .i64 0))) := by
  have HD := Lib.hid (Dead_on w Z d m h hp)
  obtain ⟨ho, vo, vb, vl, hl⟩ := h
  have c2 := hl.cell 2
  simp [devCells] at c2
  have HS := Lib.hid (settle_any w.drew Z d m vo vb vl ho hl.drew allBits (by decide) 18446744073709551615 rfl)
  have HF := Lib.hid hf; have HO := Lib.hid ho
  obtain ⟨al, cl, rfl⟩ := hl.vl_len
  clear hl ho hf hp
  go_enter Tryd.func58, Tryd.ntmps58
  go_wp2_with fail
  refine HD.out.mono ?_
  rintro e w' ⟨rfl, rfl⟩
  go_upto_region 3 with fail
  go_still_tail 7, (by kernel_rfl)
  change wpList _ _ _ _ _ w.drew
  have HWd := Lib.hid (Turn.drew Z w)
  generalize w.drew = wd at HS HWd ⊢
  clear c2
  go_wp2_with fail
  refine HS.out.mono ?_
  rintro e w1 ⟨rfl, ⟨ho1, vo1, vb1, vl1, hl1⟩, ht1⟩
  have HO1 := Lib.hid ho1; have HL1 := Lib.hid hl1; have HT1 := Lib.hid ht1
  have c8 := hl1.cell 8
  have f8 := hl1.free 8
  simp [devCells] at c8
  have e8 : (settled m allBits).fs = m.fs := rfl
  rw [e8] at c8
  have hfs : m.fs < 4611686018427387904 := by have := HF.out; omega
  generalize hm : m.fs = n at c8 hfs
  have HM := Lib.hid hm
  clear hl1 ht1 ho1 hm e8
  go_wp2
  go_ret
  refine ⟨rfl, ⟨flushed_ok HO.out HF.out, vo1, vb1, vl1, HL1.out.turn ?_ (fun k hk => heap_setCell_other _ _ k _ hk) (by simp) rfl rfl rfl⟩, (HWd.out.trans' HT1.out).trans' (turn_setCell _ HL1.out.zd)⟩
  rw [cell_set _ HL1.out.box]
  simp [devCells, flushed, isCut, cutLeft, cutPick, HM.out]

def lost (m : Dev) (p : Nat) : Dev := { settled m p with power := false, cut := none }
theorem lost_ok {m : Dev} (h : m.Ok) (p : Nat) : (lost m p).Ok := by
  have := settled_ok h p
  exact ⟨this.n, this.laid, this.laidLt, this.cache, this.once, fun _ hc => (by cases hc), this.ws, this.fs⟩

set_option maxRecDepth 100000 in
theorem Lose_dead (w : World) (Z : Nat → Prop) (d : Nat) (m : Dev) (h : DevAt w Z d m) (hp : m.power = false) (z : Int) :
    Calls Tryd.prog 69 #[.pointer (some ⟨d, 0, none⟩), .int .u64 z] w fun e w' => e = .returned (.tuple #[]) ∧ w = w' := by
  have HD := Lib.hid (Dead_off w Z d m h hp)
  clear h
  go_enter Tryd.func69, Tryd.ntmps69
  go_wp2_with fail
  refine HD.out.mono ?_
  rintro e w' ⟨rfl, rfl⟩
  go_wp2
  refine bodyPost_ret (results_none rfl _ _ _) rfl ?_
  exact ⟨rfl, rfl⟩

theorem set4_other {w : World} {d : Nat} (i j k l : Nat) (x y z u : Value) (q : Nat) (hq : q ≠ d) : ((((w.setCell ⟨d, i, none⟩ x).setCell ⟨d, j, none⟩ y).setCell ⟨d, k, none⟩ z).setCell ⟨d, l, none⟩ u).heap[q]? = w.heap[q]? := by
  rw [heap_setCell_other _ _ _ _ hq, set3_other _ _ _ _ _ _ _ hq]
theorem turn4 {w : World} {Z : Nat → Prop} {d : Nat} (i j k l : Nat) (x y z u : Value) (hz : Z d) : Turn Z w ((((w.setCell ⟨d, i, none⟩ x).setCell ⟨d, j, none⟩ y).setCell ⟨d, k, none⟩ z).setCell ⟨d, l, none⟩ u) :=
  (turn3 i j k x y z hz).trans' (turn_setCell (a := ⟨d, l, none⟩) u hz)

set_option maxHeartbeats 1000000 in
set_option maxRecDepth 100000 in
theorem Lose_on (w : World) (Z : Nat → Prop) (d : Nat) (m : Dev) (h : DevAt w Z d m) (hp : m.power = true) (p : Nat) (h64 : p < 18446744073709551616) (z : Int) (hz : z = (p : Int)) :
    Calls Tryd.prog 69 #[.pointer (some ⟨d, 0, none⟩), .int .u64 z] w (Does0 w Z d (lost m p) (.returned (.tuple #[]))) := by
  have HD := Lib.hid (Dead_on w Z d m h hp)
  obtain ⟨ho, vo, vb, vl, hl⟩ := h
  have c2 := hl.cell 2
  simp [devCells] at c2
  have HS := Lib.hid (settle_any w.drew Z d m vo vb vl ho hl.drew p h64 z hz)
  have HO := Lib.hid ho
  obtain ⟨al, cl, rfl⟩ := hl.vl_len
  clear hl ho hp hz h64
  go_enter Tryd.func69, Tryd.ntmps69
  go_wp2_with fail
  refine HD.out.mono ?_
  rintro e w' ⟨rfl, rfl⟩
  go_upto_region 1 with fail
  go_still_tail 8, (by kernel_rfl)
  change wpList _ _ _ _ _ w.drew
  have HWd := Lib.hid (Turn.drew Z w)
  generalize w.drew = wd at HS HWd ⊢
  clear c2
  go_wp2_with fail
  refine HS.out.mono ?_
  rintro e w1 ⟨rfl, ⟨ho1, vo1, vb1, vl1, hl1⟩, ht1⟩
  have HO1 := Lib.hid ho1; have HL1 := Lib.hid hl1; have HT1 := Lib.hid ht1
  have c3 := hl1.cell 3; have c4 := hl1.cell 4; have c5 := hl1.cell 5; have c6 := hl1.cell 6
  have f3 := hl1.free 3; have f4 := hl1.free 4; have f5 := hl1.free 5; have f6 := hl1.free 6
  simp [devCells] at c3 c4 c5 c6
  clear hl1 ht1 ho1
  go_wp2
  refine bodyPost_end (results_none rfl _ _ _) rfl ?_
  refine ⟨rfl, ⟨lost_ok HO.out p, vo1, vb1, vl1, HL1.out.turn ?_ (fun k hk => set4_other _ _ _ _ _ _ _ _ k hk) (by simp) rfl rfl rfl⟩, (HWd.out.trans' HT1.out).trans' (turn4 _ _ _ _ _ _ _ _ HL1.out.zd)⟩
  rw [cell_set _ (set3 _ _ _ _ _ _ HL1.out.box)]
  simp [devCells, lost, isCut, cutLeft, cutPick]

set_option maxRecDepth 100000 in
theorem Write_dead (w : World) (Z : Nat → Prop) (d : Nat) (m : Dev) (h : DevAt w Z d m) (hp : m.power = false) (k : Int) (v : Value) :
    Calls Tryd.prog 57 #[.pointer (some ⟨d, 0, none⟩), .int .i64 k, v] w fun e w' => e = .returned (.int .i64 22) ∧ w = w' := by
  have HD := Lib.hid (Dead_off w Z d m h hp)
  clear h
  go_enter Tryd.func57, Tryd.ntmps57
  go_wp2_with fail
  refine HD.out.mono ?_
  rintro e w' ⟨rfl, rfl⟩
  go_wp2
  go_ret
  exact ⟨rfl, rfl⟩

set_option maxRecDepth 100000 in
theorem Write_number (w : World) (Z : Nat → Prop) (d : Nat) (m : Dev) (h : DevAt w Z d m) (hp : m.power = true) (k : Int) (hk : ¬ (0 ≤ k ∧ k < (m.n : Int))) (v : Value) :
    Calls Tryd.prog 57 #[.pointer (some ⟨d, 0, none⟩), .int .i64 k, v] w fun e w' => e = .returned (.int .i64 20) ∧ w = w' := by
  have HD := Lib.hid (Dead_on w Z d m h hp)
  have HH := Lib.hid (has_no w Z d m h k hk)
  clear h hk hp
  go_enter Tryd.func57, Tryd.ntmps57
  go_wp2_with fail
  refine HD.out.mono ?_
  rintro e w' ⟨rfl, rfl⟩
  go_wp2_with fail
  refine HH.out.mono ?_
  rintro e w' ⟨rfl, rfl⟩
  go_wp2
  go_ret
  exact ⟨rfl, rfl⟩

set_option maxRecDepth 100000 in
theorem Write_form (w : World) (Z : Nat → Prop) (d : Nat) (m : Dev) (h : DevAt w Z d m) (hp : m.power = true) (k : Int) (hk : 0 ≤ k ∧ k < (m.n : Int)) (a : Option Addr) (n c : Nat) (hn : n ≠ 64) :
    Calls Tryd.prog 57 #[.pointer (some ⟨d, 0, none⟩), .int .i64 k, .slice a n c] w fun e w' => e = .returned (.int .i64 10) ∧ w = w' := by
  have HD := Lib.hid (Dead_on w Z d m h hp)
  have HH := Lib.hid (has_yes w Z d m h k hk)
  have hne : True → ((n : Int) != 64) = true := fun _ => by rw [bne_iff_ne]; omega
  clear h hk hp hn
  go_enter Tryd.func57, Tryd.ntmps57
  go_wp2_with fail
  refine HD.out.mono ?_
  rintro e w' ⟨rfl, rfl⟩
  go_wp2_with fail
  refine HH.out.mono ?_
  rintro e w' ⟨rfl, rfl⟩
  go_wp2
  go_ret
  exact ⟨rfl, rfl⟩

set_option maxHeartbeats 1000000 in
set_option maxRecDepth 100000 in
theorem Write_cut (w : World) (Z : Nat → Prop) (d : Nat) (m : Dev) (h : DevAt w Z d m) (hp : m.power = true) (k : Int) (hk : 0 ≤ k ∧ k < (m.n : Int)) (a : Option Addr) (c : Nat) (p : Nat) (hc : m.cut = some (0, p)) (h64 : p < 18446744073709551616) :
    Calls Tryd.prog 57 #[.pointer (some ⟨d, 0, none⟩), .int .i64 k, .slice a 64 c] w (Does0 w Z d (lost m p) (.returned (.int .i64 22))) := by
  have HD := Lib.hid (Dead_on w Z d m h hp)
  have HH := Lib.hid (has_yes w Z d m h k hk)
  have HLe := Lib.hid (lets_zero w Z d m h p hc)
  have HLo := Lib.hid (Lose_on w Z d m h hp p h64 p rfl)
  obtain ⟨ho, vo, vb, vl, hl⟩ := h
  have c6 := hl.cell 6
  simp [devCells, cutPick, hc] at c6
  clear hl ho hk hp hc h64
  go_enter Tryd.func57, Tryd.ntmps57
  go_wp2_with fail
  refine HD.out.mono ?_
  rintro e w' ⟨rfl, rfl⟩
  go_wp2_with fail
  refine HH.out.mono ?_
  rintro e w' ⟨rfl, rfl⟩
  go_wp2_with fail
  refine HLe.out.mono ?_
  rintro e w' ⟨rfl, rfl⟩
  go_wp2_with fail
  refine HLo.out.mono ?_
  rintro e w1 ⟨rfl, hd1, ht1⟩
  have HD1 := Lib.hid hd1; have HT1 := Lib.hid ht1
  clear hd1 ht1
  go_wp2
  go_ret
  exact ⟨rfl, HD1.out, HT1.out⟩

theorem idx_hit {ns : List Nat} {k : Nat} (h : ns.idxOf k < ns.length) : ns.getD (ns.idxOf k) 0 = k ∧ ∀ i, i < ns.idxOf k → ns.getD i 0 ≠ k := by
  refine ⟨?_, fun i hi => ?_⟩
  · simp only [List.getD, List.getElem?_eq_getElem h, Option.getD_some]
    exact List.getElem_idxOf h
  · have h1 := List.not_of_lt_findIdx (p := (· == k)) (xs := ns) (i := i) hi
    have h2 : i < ns.length := by omega
    simp only [List.getD, List.getElem?_eq_getElem h2, Option.getD_some]
    intro e
    simp only [e, beq_self_eq_true] at h1
    exact absurd h1 (by simp)
theorem idx_miss {ns : List Nat} {k : Nat} (h : ¬ ns.idxOf k < ns.length) : ∀ i, i < ns.length → ns.getD i 0 ≠ k := by
  intro i hi e
  apply h
  rw [List.idxOf_lt_length_iff]
  simp only [List.getD, List.getElem?_eq_getElem hi, Option.getD_some] at e
  rw [← e]
  exact List.getElem_mem hi

theorem DevAt.more {w w' : World} {Z : Nat → Prop} {d : Nat} {m : Dev} (h : DevAt w' Z d m) : DevAt w' (More Z w w') d m := by
  obtain ⟨ho, vo, vb, vl, hl⟩ := h
  exact ⟨ho, vo, vb, vl, hl.box, hl.order, hl.blocks, hl.laid, hl.apart, .inl hl.zd, fun g hg => .inl (hl.zo g hg), fun g hg => .inl (hl.zb g hg), fun g hg => .inl (hl.zl g hg), fun k hk => hk.elim (hl.zlt k) (·.2)⟩

/-- A sector's bytes lie in the cache. -/
def putC (m : Dev) (k : Nat) (x : List Nat) : Dev := if (keys m.cache).idxOf k < m.cache.length then putAt m ((keys m.cache).idxOf k) k x else putNew m k x
theorem put_any (w : World) (Z : Nat → Prop) (d : Nat) (m : Dev) (h : DevAt w Z d m) (k : Nat) (x : List Nat) (hx : x.length = 64) (h8 : ∀ y ∈ x, y < 256) (hkn : k < m.n) :
    Calls Tryd.prog 70 #[.pointer (some ⟨d, 0, none⟩), .int .i64 k, .agg (ba x)] w (Does w Z d (putC m k x) (.returned (.tuple #[]))) := by
  unfold putC
  by_cases hj : (keys m.cache).idxOf k < m.cache.length
  · rw [if_pos hj]
    have := idx_hit (ns := keys m.cache) (k := k) (by rw [keys_len]; exact hj)
    refine (put_hit w Z d m h k _ x hx h8 hkn hj this.1 this.2).mono ?_
    rintro e w' ⟨he, hd, ht⟩
    exact ⟨he, hd.more, ht⟩
  · rw [if_neg hj]
    have := idx_miss (ns := keys m.cache) (k := k) (by rw [keys_len]; exact hj)
    exact put_miss w Z d m h k x hx h8 hkn (by simpa using this)

theorem lets_yes (w : World) (Z : Nat → Prop) (d : Nat) (m : Dev) (h : DevAt w Z d m) (hc : ∀ p, m.cut ≠ some (0, p)) :
    Calls Tryd.prog 68 #[.pointer (some ⟨d, 4, none⟩)] w (Does0 w Z d (afterLets m) (.returned (.bool true))) := by
  cases hm : m.cut with
  | none =>
    have e : afterLets m = m := by unfold afterLets; rw [hm]; cases m; simp_all
    rw [e]
    refine (lets_none w Z d m h hm).mono ?_
    rintro e w' ⟨he, rfl⟩
    exact ⟨he, h, Turn.refl _ _⟩
  | some q =>
    obtain ⟨l, p⟩ := q
    cases l with
    | zero => exact absurd hm (hc p)
    | succ l =>
      have e : afterLets m = { m with cut := some (l, p) } := by unfold afterLets; rw [hm]; rfl
      rw [e]
      exact lets_more w Z d m h l p hm

def counted (m : Dev) : Dev := { m with ws := m.ws + 1 }
/-- What a good write makes of a device. -/
def wrote (m : Dev) (k : Nat) (x : List Nat) : Dev := counted (putC (afterLets m) k x)
theorem counted_ok {m : Dev} (h : m.Ok) (hw : m.ws + 1 < 4611686018427387904) : (counted m).Ok := ⟨h.n, h.laid, h.laidLt, h.cache, h.once, h.cut, hw, h.fs⟩
theorem Lies.widen {w : World} {Z Z' : Nat → Prop} {d : Nat} {m : Dev} {vo vb vl : Value} (h : Lies w Z d m vo vb vl) (hz : ∀ k, Z k → Z' k) (hlt : ∀ k, Z' k → k < w.heap.size) : Lies w Z' d m vo vb vl :=
  ⟨h.box, h.order, h.blocks, h.laid, h.apart, hz _ h.zd, fun g hg => hz _ (h.zo g hg), fun g hg => hz _ (h.zb g hg), fun g hg => hz _ (h.zl g hg), hlt⟩
theorem putC_ws (m : Dev) (k : Nat) (x : List Nat) : (putC m k x).ws = m.ws := by
  unfold putC
  split <;> rfl

set_option maxHeartbeats 1000000 in
set_option maxRecDepth 100000 in
theorem Write_ok (w : World) (Z : Nat → Prop) (d : Nat) (m : Dev) (h : DevAt w Z d m) (hp : m.power = true) (k : Nat) (hk : k < m.n) (a : Option Addr) (c : Nat) (x : List Nat) (hx : x.length = 64) (h8 : ∀ y ∈ x, y < 256)
    (hc : ∀ p, m.cut ≠ some (0, p)) (hws : m.ws + 1 < 4611686018427387904) (hv : SlI w .u8 (.slice a 64 c) x) (hap : ∀ b off, a = some ⟨b, off, none⟩ → ¬ Z b) :
    Calls Tryd.prog 57 #[.pointer (some ⟨d, 0, none⟩), .int .i64 k, .slice a 64 c] w (Does w Z d (wrote m k x) (.returned (.int .i64 0))) := by
  have HD := Lib.hid (Dead_on w Z d m h hp)
  have HH := Lib.hid (has_yes w Z d m h k ⟨by omega, by omega⟩)
  have HLe := Lib.hid (lets_yes w Z d m h hc)
  have HV := Lib.hid hv; have HX := Lib.hid hx; have H8 := Lib.hid h8; have HK := Lib.hid hk; have HW := Lib.hid hws; have HAp := Lib.hid hap
  have HM := Lib.hid h
  clear h hk hp hc hx h8 hws hv hap
  go_enter Tryd.func57, Tryd.ntmps57
  go_wp2_with fail
  refine HD.out.mono ?_
  rintro e w' ⟨rfl, rfl⟩
  go_wp2_with fail
  refine HH.out.mono ?_
  rintro e w' ⟨rfl, rfl⟩
  go_wp2_with fail
  refine HLe.out.mono ?_
  rintro e w1 ⟨rfl, hd1, ht1⟩
  have HD1 := Lib.hid hd1; have HT1 := Lib.hid ht1
  clear hd1 ht1
  go_upto_region 10 with fail
  have HDd := Lib.hid HD1.out.drew
  have HBo := Lib.hid (blockOf_any (.slice a 64 c) x w1.drew (by
    have hv := HV.out
    obtain ⟨h1, a', c', e, hc⟩ := hv
    refine ⟨h1, a', c', e, fun h0 => ?_⟩
    obtain ⟨b, off, rfl, hcell⟩ := hc h0
    have e1 : a = some ⟨b, off, none⟩ := by injection e
    refine ⟨b, off, rfl, fun j hj => ?_⟩
    have hcj := hcell j hj
    have hb : b < w.heap.size := cell_lt hcj
    exact (World.cell?_of_block (w := w) (w' := w1.drew) (a := ⟨b, off + j, none⟩) (HT1.out.block b hb (HAp.out b off e1))).trans hcj) (by have := HX.out; omega))
  have hx64 : x.take 64 = x := List.take_of_length_le (by have := HX.out; omega)
  rw [hx64] at HBo
  clear hx64
  refine wp_region_any (by kernel_rfl) ?_
  change wpAny _ _ _ _ _ _ _ (World.drew _)
  refine wpAny_take (i := 0) (oi := { dst := some 28, op := Op.move (Operand.tmp 0), type := 24, pos := "sector.go:99", after := #[], guard := none }) (v := ?_) rfl (by kernel_rfl) (by kernel_rfl) (by kernel_rfl) (fun _ _ _ h => h) (Or.inl ⟨by rfl, ?_⟩) ?_
  rotate_left 1
  · intro W
    go_simp
    try with_reducible rfl
  try simp only [Act.put, List.setIfInBounds_toArray, List.set_cons_zero, List.set_cons_succ]
  refine wpAny_take (i := 1) (oi := { dst := some 29, op := Op.nilCheck (Operand.tmp 28), type := 0, pos := "sector.go:99", after := #[{ on := 0, ground := Ground.data }], guard := none }) (v := ?_) rfl (by kernel_rfl) (by kernel_rfl) (by kernel_rfl) (fun _ _ _ h => h) (Or.inl ⟨by rfl, ?_⟩) ?_
  rotate_left 1
  · intro W
    go_simp
    try with_reducible rfl
  try simp only [Act.put, List.setIfInBounds_toArray, List.set_cons_zero, List.set_cons_succ]
  refine wpAny_take (i := 2) (oi := { dst := some 30, op := Op.fieldAddr 69 (Operand.tmp 29) 0, type := 0, pos := "sector.go:99", after := #[{ on := 1, ground := Ground.data }], guard := none }) (v := ?_) rfl (by kernel_rfl) (by kernel_rfl) (by kernel_rfl) (fun _ _ _ h => h) (Or.inl ⟨by rfl, ?_⟩) ?_
  rotate_left 1
  · intro W
    go_simp
    try with_reducible rfl
  try simp only [Act.put, List.setIfInBounds_toArray, List.set_cons_zero, List.set_cons_succ]
  refine wpAny_take (i := 3) (oi := { dst := some 31, op := Op.move (Operand.tmp 1), type := 3, pos := "sector.go:99", after := #[], guard := none }) (v := ?_) rfl (by kernel_rfl) (by kernel_rfl) (by kernel_rfl) (fun _ _ _ h => h) (Or.inl ⟨by rfl, ?_⟩) ?_
  rotate_left 1
  · intro W
    go_simp
    try with_reducible rfl
  try simp only [Act.put, List.setIfInBounds_toArray, List.set_cons_zero, List.set_cons_succ]
  refine wpAny_take (i := 4) (oi := { dst := some 32, op := Op.move (Operand.tmp 2), type := 22, pos := "sector.go:99", after := #[], guard := none }) (v := ?_) rfl (by kernel_rfl) (by kernel_rfl) (by kernel_rfl) (fun _ _ _ h => h) (Or.inl ⟨by rfl, ?_⟩) ?_
  rotate_left 1
  · intro W
    go_simp
    try with_reducible rfl
  try simp only [Act.put, List.setIfInBounds_toArray, List.set_cons_zero, List.set_cons_succ]
  refine wpAny_ready (rs := [5]) (by kernel_rfl) (by simp) ?_
  refine AllReady.cons (o := { dst := some 33, op := Op.call { callee := Callee.value (Operand.func 32), args := #[Operand.tmp 32], argTypes := #[22] }, type := 61, pos := "sector.go:99", after := #[{ on := 4, ground := Ground.data }], guard := none }) rfl (fun K hK => ?_) ?_
  · go_simp
    go_wp2_with (go_at_call 32; refine HBo.out.mono ?_; rintro e w2 ⟨rfl, hb2⟩; have HB2 := Lib.hid hb2; clear hb2)
    try clear hK K
    try simp only [Act.put, List.setIfInBounds_toArray, List.set_cons_zero, List.set_cons_succ]
    refine wpAny_ready (rs := [6]) (by kernel_rfl) (by simp) ?_
    refine AllReady.cons (o := { dst := some 34, op := Op.call { callee := Callee.value (Operand.func 70), args := #[Operand.tmp 30, Operand.tmp 31, Operand.tmp 33], argTypes := #[65, 3, 61] }, type := 0, pos := "sector.go:99", after := #[{ on := 2, ground := Ground.data }, { on := 3, ground := Ground.data }, { on := 5, ground := Ground.data }, { on := 5, ground := Ground.chain }], guard := none }) rfl (fun K hK => ?_) ?_
    · have HPu := Lib.hid (put_any w2 Z d (afterLets m) (HDd.out.keep HB2.out) k x HX.out H8.out HK.out)
      go_simp
      go_wp2_with (go_at_call 70; refine HPu.out.mono ?_; rintro e w3 ⟨rfl, hd3, ht3⟩; have HD3 := Lib.hid hd3; have HT3 := Lib.hid ht3; clear hd3 ht3)
      try clear hK K
      try simp only [Act.put, List.setIfInBounds_toArray, List.set_cons_zero, List.set_cons_succ]
      refine wpAny_done (by kernel_rfl) ?_ _
      obtain ⟨ho3, vo3, vb3, vl3, hl3⟩ := HD3.out
      have HO3 := Lib.hid ho3; have HL3 := Lib.hid hl3
      have c7 := hl3.cell 7
      have f7 := hl3.free 7
      simp [devCells] at c7
      rw [putC_ws] at c7
      have e7 : (afterLets m).ws = m.ws := rfl
      rw [e7] at c7
      have hws : m.ws < 4611686018427387904 := by have := HW.out; omega
      have HE := Lib.hid (show (putC (afterLets m) k x).ws = m.ws by rw [putC_ws, e7])
      generalize hm : m.ws = n at c7 hws
      have HMn := Lib.hid hm
      clear ho3 hl3 e7 hm
      go_wp2
      go_ret
      have hs1 := HT1.out.size; have hs2 := HB2.out.size
      have hs1' : w1.drew.heap.size = w1.heap.size := rfl
      refine ⟨rfl, ⟨counted_ok HO3.out (by rw [HE.out]; exact HW.out), vo3, vb3, vl3, Lies.widen (HL3.out.turn (m' := wrote m k x) ?_ (fun k hk => heap_setCell_other _ _ k _ hk) (by simp) rfl rfl rfl) (fun q hq => ?_) (fun q hq => ?_)⟩, ?_⟩
      · rw [cell_set _ HL3.out.box]
        simp [devCells, wrote, counted, isCut, cutLeft, cutPick, HE.out, HMn.out]
      · rcases hq with hq | hq
        · exact .inl hq
        · refine .inr ⟨by omega, ?_⟩
          simp only [World.size_setCell]
          exact hq.2
      · rcases hq with hq | hq
        · have := HM.out.lt q hq
          have := HT3.out.size
          simp only [World.size_setCell]
          omega
        · exact hq.2
      · have hz3 : Turn Z w w3 := (HT1.out.trans' ((Turn.drew Z w1).trans' (Turn.of_below HB2.out))).trans' HT3.out
        exact hz3.trans' (turn_setCell _ (by
          have hz := HM.out
          obtain ⟨_, _, _, _, hh⟩ := hz
          exact hh.zd))
    exact AllReady.nil
  exact AllReady.nil

end Go.Proofs.YtkhghkklekjdaaaDoor.sector
