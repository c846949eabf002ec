/- The document's device: Write, New. -/
import Derived.Test.YtkhghkklekjdaaaDoorRows
import Derived.Test.YtkhghkklekjdaaaDoorSectorRTell
namespace Go.Proofs.YtkhghkklekjdaaaDoor.sector
open Go.RowKit
open Go.Proofs.YtkhghkklekjdaaaDoor.kit Go.Proofs.YtkhghkklekjdaaaDoor.own
set_option linter.unusedVariables false

set_option maxRecDepth 100000 in
theorem rWrite_dead (w : World) (Z : Nat → Prop) (d : Nat) (m : Dev) (h : RAt w Z d m) (hp : m.power = false) (k : Int) (v : Value) :
    Calls Tryd.prog 44 #[.pointer (some ⟨d, 0, none⟩), .int .i64 k, v] w fun e w' => e = .returned (.int .i64 22) ∧ w = w' := by
  obtain ⟨ho, vd, vc, pk, hl⟩ := h
  have c0 := hl.cell 0; have c3 := hl.cell 3
  simp [rCells, hp] at c0 c3
  clear hl ho hp
  go_enter Tryd.func44, Tryd.ntmps44
  go_wp2
  go_ret
  exact ⟨rfl, rfl⟩

set_option maxRecDepth 100000 in
theorem rWrite_number (w : World) (Z : Nat → Prop) (d : Nat) (m : Dev) (h : RAt w Z d m) (hp : m.power = true) (k : Int) (hk : ¬ (0 ≤ k ∧ k < (m.n : Int))) (v : Value) :
    Calls Tryd.prog 44 #[.pointer (some ⟨d, 0, none⟩), .int .i64 k, v] w fun e w' => e = .returned (.int .i64 20) ∧ w = w' := by
  have HS := Lib.hid (rSectors_any w Z d m h)
  obtain ⟨ho, vd, vc, pk, hl⟩ := h
  have c0 := hl.cell 0; have c3 := hl.cell 3
  simp [rCells, hp] at c0 c3
  clear hl ho hp
  generalize m.n = n at HS hk
  by_cases h0 : k < 0
  · clear hk
    go_enter Tryd.func44, Tryd.ntmps44
    go_wp2
    go_ret
    exact ⟨rfl, rfl⟩
  · have h1 : (n : Int) ≤ k := by
      by_cases h : k < (n : Int)
      · exact absurd ⟨by omega, h⟩ hk
      · omega
    have h0' : 0 ≤ k := by omega
    clear hk h0
    go_enter Tryd.func44, Tryd.ntmps44
    go_wp2_with fail
    refine HS.out.mono ?_
    rintro e w' ⟨rfl, rfl⟩
    go_wp2
    go_ret
    exact ⟨rfl, rfl⟩

set_option maxRecDepth 100000 in
theorem rWrite_form (w : World) (Z : Nat → Prop) (d : Nat) (m : Dev) (h : RAt w Z d m) (hp : m.power = true) (k : Int) (hk : 0 ≤ k ∧ k < (m.n : Int)) (a : Option Addr) (n c : Nat) (hn : n ≠ 64) :
    Calls Tryd.prog 44 #[.pointer (some ⟨d, 0, none⟩), .int .i64 k, .slice a n c] w fun e w' => e = .returned (.int .i64 10) ∧ w = w' := by
  have HS := Lib.hid (rSectors_any w Z d m h)
  obtain ⟨ho, vd, vc, pk, hl⟩ := h
  have c0 := hl.cell 0; have c3 := hl.cell 3
  simp [rCells, hp] at c0 c3
  clear hl ho hp
  obtain ⟨h0, h1⟩ := hk
  have hne : True → ((n : Int) != 64) = true := fun _ => by rw [bne_iff_ne]; omega
  generalize m.n = N at HS h1
  clear hn
  go_enter Tryd.func44, Tryd.ntmps44
  go_wp2_with fail
  refine HS.out.mono ?_
  rintro e w' ⟨rfl, rfl⟩
  go_wp2
  go_ret
  exact ⟨rfl, rfl⟩

set_option maxHeartbeats 1000000 in
set_option maxRecDepth 100000 in
theorem rWrite_cut (w : World) (Z : Nat → Prop) (d : Nat) (m : Dev) (h : RAt w Z d m) (hp : m.power = true) (k : Int) (hk : 0 ≤ k ∧ k < (m.n : Int)) (a : Option Addr) (c : Nat) (p : Nat) (hc : m.cut = some (0, p)) (h64 : p < 18446744073709551616) :
    Calls Tryd.prog 44 #[.pointer (some ⟨d, 0, none⟩), .int .i64 k, .slice a 64 c] w (RDoes0 w Z d (lost m p) (.returned (.int .i64 22))) := by
  have HS := Lib.hid (rSectors_any w Z d m h)
  have HLo := Lib.hid (rLose_on w Z d m h hp p h64 p rfl)
  obtain ⟨ho, vd, vc, pk, hl⟩ := h
  obtain rfl := hl.pick _ hc
  have c0 := hl.cell 0; have c3 := hl.cell 3; have c4 := hl.cell 4; have c5 := hl.cell 5
  simp [rCells, hp, leftI, hc] at c0 c3 c4 c5
  clear hl ho hp hc h64
  obtain ⟨h0, h1⟩ := hk
  generalize m.n = N at HS h1
  go_enter Tryd.func44, Tryd.ntmps44
  go_wp2_with fail
  refine HS.out.mono ?_
  rintro e w' ⟨rfl, rfl⟩
  go_wp2_with fail
  refine HLo.out.mono ?_
  rintro e w1 ⟨rfl, hd1, ht1⟩
  have HD1 := Lib.hid hd1; have HT1 := Lib.hid ht1
  clear hd1 ht1
  go_wp2
  go_ret
  exact ⟨rfl, HD1.out, HT1.out⟩

theorem RLies.more {w w' : World} {Z : Nat → Prop} {d : Nat} {m : Dev} {vd vc : Value} {pk : Nat} (h : RLies w' Z d m vd vc pk) : RLies w' (More Z w w') d m vd vc pk :=
  ⟨h.box, h.down, h.cache, h.pick, .inl h.zd, fun g hg => .inl (h.zo g hg), fun g hg => .inl (h.zc g hg), fun k hk => hk.elim (h.zlt k) (·.2)⟩
theorem RAt.more {w w' : World} {Z : Nat → Prop} {d : Nat} {m : Dev} (h : RAt w' Z d m) : RAt w' (More Z w w') d m := by
  obtain ⟨ho, vd, vc, pk, hl⟩ := h
  exact ⟨ho, vd, vc, pk, hl.more⟩
theorem slots_app (c : List (Nat × List Nat)) (p : Nat × List Nat) : slots (c ++ [p]) = slots c ++ [.int .i64 (p.1 : Nat), .string (strN p.2)] := by simp [slots]
theorem slots_set : ∀ (c : List (Nat × List Nat)) (j k : Nat) (x : List Nat), j < c.length → (keys c).getD j 0 = k → (slots c).set (j * 2 + 1) (.string (strN x)) = slots (c.set j (k, x))
  | [], j, k, x, h, _ => by simp at h
  | p :: c, 0, k, x, h, hk => by
    have : p.1 = k := hk
    subst this
    rfl
  | p :: c, j + 1, k, x, h, hk => by
    have ih := slots_set c j k x (by simpa using h) hk
    have e : slots (p :: c) = .int .i64 (p.1 : Nat) :: .string (strN p.2) :: slots c := rfl
    rw [e, show (j + 1) * 2 + 1 = (j * 2 + 1) + 1 + 1 by omega, List.set_cons_succ, List.set_cons_succ, ih]
    rfl
theorem RLies.slot_set {w : World} {Z : Nat → Prop} {d : Nat} {m : Dev} {vd : Value} {g L cap pk : Nat} (h : RLies w Z d m vd (.slice (some ⟨g, 0, none⟩) L cap) pk) {j k : Nat} {x : List Nat} (hj : j < m.cache.length) (hk : (keys m.cache).getD j 0 = k) (hL : L = m.cache.length) :
    RLies (w.setCell ⟨g, j * 2 + 1, none⟩ (.string (strN x))) Z d (putAt m j k x) vd (.slice (some ⟨g, 0, none⟩) L cap) pk ∧ Turn Z w (w.setCell ⟨g, j * 2 + 1, none⟩ (.string (strN x))) := by
  subst hL
  obtain ⟨r1, r2⟩ := World.ownsRow.stored h.cache (j * 2 + 1) (.string (strN x))
  rw [slots_set m.cache j k x hj hk] at r1
  have n1 := own_ne h.cache h.down (by decide) (g := g) rfl
  have n2 := own_ne_box h.cache h.box (by decide)
  refine ⟨⟨(r2.block d h.lt (fun e => n2 e.symm)).trans h.box, own_stays h.down (fun q hq => r2.block q (h.down.lt q hq).2 (fun e => by cases e; exact n1 hq)), ?_, h.pick, h.zd, h.zo, h.zc, fun q hq => Nat.lt_of_lt_of_le (h.zlt q hq) r2.size⟩, turn_grown r2 (h.zc g rfl)⟩
  show World.ownsRow _ 0 112 2 _ (m.cache.set j (k, x)).length _
  rw [List.length_set]
  exact r1
theorem infoSlot : (Tryd.prog.info? 112).map (fun i => (i.zero.map (·.cells.size), i.size, i.bytes)) = some (some 2, 2, 24) := by kernel_rfl
theorem slot_parts {P : Program} {e : TypeId} (hi : (P.info? e).map (fun i => (i.zero.map (·.cells.size), i.size, i.bytes)) = some (some 2, 2, 24)) : ∃ i z, P.info? e = some i ∧ i.zero = some z ∧ i.size = 2 ∧ i.bytes = 24 ∧ z.cells.size = 2 := by
  cases hie : P.info? e with
  | none => simp [hie] at hi
  | some ie =>
    simp [hie] at hi
    obtain ⟨⟨z, hz, hzs⟩, hs, hb⟩ := hi
    exact ⟨ie, z, rfl, hz, hs, hb, hzs⟩
theorem rput_end {w W1 w3 : World} {Z : Nat → Prop} {d : Nat} {m : Dev} {k : Nat} {x : List Nat} {vd vc : Value} {pk : Nat} {ac : Option Addr} {cc : Nat} {v3 : Value} (hl : RLies W1 Z d m vd vc pk) (hvc : vc = .slice ac m.cache.length cc) (ht : Turn Z w W1) (hp : (putNew m k x).Ok)
    (ho3 : w3.ownsRow 0 112 2 v3 (m.cache.length + 1) (slots m.cache ++ [.int .i64 (k : Nat), .string (strN x)])) (hg3 : (W1.drew.alloc (.cells #[.int .i64 (k : Nat), .string (strN x)] 112)).grownBy w3 (Value.slice ac m.cache.length cc).ownBlock)
    (ha3 : v3.ownBlock = (Value.slice ac m.cache.length cc).ownBlock ∨ v3.ownBlock = some (W1.drew.alloc (.cells #[.int .i64 (k : Nat), .string (strN x)] 112)).heap.size) (hd3 : w3.heap[d]? = some (.cells (rCells m vd (.slice ac m.cache.length cc) pk) 73 (0, 0))) :
    RAt (w3.setCell ⟨d, 2, none⟩ v3) (More Z w (w3.setCell ⟨d, 2, none⟩ v3)) d (putNew m k x) ∧ Turn Z w (w3.setCell ⟨d, 2, none⟩ v3) := by
  rw [← hvc] at hg3 ha3 hd3
  have hs4 : (W1.drew.alloc (.cells #[.int .i64 (k : Nat), .string (strN x)] 112)).heap.size = W1.heap.size + 1 := by simp
  have hs3 := hg3.size
  have hsz : (w3.setCell ⟨d, 2, none⟩ v3).heap.size = w3.heap.size := by simp
  have hs1 := ht.size
  rw [hs4] at hs3
  have old : ∀ g, g < W1.heap.size → some g ≠ vc.ownBlock → g ≠ d → (w3.setCell ⟨d, 2, none⟩ v3).heap[g]? = W1.heap[g]? := fun g hg hne hgd =>
    (heap_setCell_other w3 _ g _ hgd).trans ((hg3.block g (by omega) hne).trans (heap_alloc_old W1.drew _ hg))
  refine ⟨⟨hp, vd, v3, pk, ?_, ?_, ?_, hl.pick, .inl hl.zd, fun g hg => .inl (hl.zo g hg), ?_, ?_⟩, ?_⟩
  · rw [cell_set v3 hd3]
    simp [rCells, putNew, leftI]
  · exact own_stays hl.down (fun g hg => old g (hl.down.lt g hg).2 (fun e => own_ne hl.down hl.cache (by decide) hg e.symm) (fun e => own_ne_box hl.down hl.box (by decide) (by rw [← e]; exact hg)))
  · show World.ownsRow _ 0 112 2 v3 (m.cache ++ [(k, x)]).length (slots (m.cache ++ [(k, x)]))
    rw [slots_app, List.length_append]
    exact own_stays ho3 (fun g hg => heap_setCell_other w3 _ g _ (fun e => own_ne_box ho3 hd3 (by decide) (by rw [hg]; exact congrArg some e)))
  · intro g hg
    rcases ha3 with h | h
    · exact .inl (hl.zc g (h.symm.trans hg))
    · have hlt := (ho3.lt g hg).2
      rw [h] at hg
      cases hg
      exact .inr ⟨by omega, by omega⟩
  · intro g hg
    rcases hg with hg | hg
    · have := hl.zlt g hg; omega
    · exact hg.2
  · refine ht.trans' (Turn.trans' (b := w3) ⟨hg3.os, hg3.tape, hg3.output, by omega, fun q hq hn => (hg3.block q (by omega) (fun e => hn (hl.zc q e.symm))).trans (heap_alloc_old W1.drew _ hq)⟩ (turn_setCell _ hl.zd))

/-- A good write: the count of a cut, and of writes, ahead of the cache. -/
def begun (m : Dev) : Dev := counted (afterLets m)
theorem wrote_begun (m : Dev) (k : Nat) (x : List Nat) : wrote m k x = putC (begun m) k x := by
  unfold wrote begun putC
  have e1 : (counted (afterLets m)).cache = (afterLets m).cache := rfl
  rw [e1]
  split <;> rfl
theorem begun_ok {m : Dev} (h : m.Ok) (hw : m.ws + 1 < 4611686018427387904) : (begun m).Ok := counted_ok (afterLets_ok h) hw

/-- The device's cells behind the counts, as the document's Write turns them. -/
theorem begun_cells (m : Dev) (vd vc : Value) (pk : Nat) (hc : m.cut = none) : (rCells m vd vc pk).setIfInBounds 6 (.int .i64 ((m.ws : Int) + 1)) = rCells (begun m) vd vc pk := by
  simp [rCells, begun, counted, afterLets, leftI, hc]
theorem begun_cells2 (m : Dev) (vd vc : Value) (pk l p : Nat) (hc : m.cut = some (l + 1, p)) : ((rCells m vd vc pk).setIfInBounds 4 (.int .i64 (l : Int))).setIfInBounds 6 (.int .i64 ((m.ws : Int) + 1)) = rCells (begun m) vd vc pk := by
  simp [rCells, begun, counted, afterLets, leftI, hc]

set_option maxHeartbeats 4000000 in
set_option maxRecDepth 100000 in
theorem rWrite_ok (w : World) (Z : Nat → Prop) (d : Nat) (m : Dev) (h : RAt w Z d m) (hp : m.power = true) (k : Nat) (hk : k < m.n) (a : Option Addr) (c : Nat) (x : List Nat) (hx : x.length = 64) (h8 : ∀ y ∈ x, y < 256)
    (hc : ∀ p, m.cut ≠ some (0, p)) (hws : m.ws + 1 < 4611686018427387904) (hv : SlI w .u8 (.slice a 64 c) x) (hap : ∀ b off, a = some ⟨b, off, none⟩ → ¬ Z b) :
    Calls Tryd.prog 44 #[.pointer (some ⟨d, 0, none⟩), .int .i64 k, .slice a 64 c] w (RDoes w Z d (wrote m k x) (.returned (.int .i64 0))) := by
  rw [wrote_begun]
  have HS := Lib.hid (rSectors_any w Z d m h)
  obtain ⟨ho, vd, vc, pk, hl⟩ := h
  have HO := Lib.hid (begun_ok ho hws)
  have HX := Lib.hid hx; have H8 := Lib.hid h8; have HK := Lib.hid hk; have HV := Lib.hid hv; have HAp := Lib.hid hap
  have c0 := hl.cell 0; have c3 := hl.cell 3; have c4 := hl.cell 4; have c6 := hl.cell 6
  have f4 := hl.free 4; have f6 := hl.free 6
  have hk0 : (0 : Int) ≤ (k : Int) := by omega
  have hkI : (k : Int) < (m.n : Int) := by omega
  have hlen : m.cache.length ≤ 4096 := ho.len
  rcases hm : m.cut with _ | ⟨l, p⟩
  case' none =>
    simp [rCells, hp, leftI, hm] at c0 c3 c4 c6
    have hT := turn_setCell (w := w) (Z := Z) (a := ⟨d, 6, none⟩) (.int .i64 ((m.ws : Int) + 1)) hl.zd
    have hL := hl.turn (w' := w.setCell ⟨d, 6, none⟩ (.int .i64 ((m.ws : Int) + 1))) (m' := begun m) (pk' := pk) (by rw [cell_set _ hl.box, begun_cells m vd vc pk hm]) (fun k hk => heap_setCell_other _ _ k _ hk) (by simp) rfl rfl (by intro p hh; simp [begun, counted, afterLets, hm] at hh)
    have HL := Lib.hid hL; have HT := Lib.hid hT
    have hws' : m.ws < 4611686018427387904 := by omega
    generalize m.ws = ws at c6 hws' HL HT
    clear hl ho hp hc hx h8 hws hv hap hk hL hT hm
    go_enter Tryd.func44, Tryd.ntmps44
    go_wp2_with fail
    refine HS.out.mono ?_
    rintro e w' ⟨rfl, rfl⟩
    go_upto_region 13 with fail
    clear c0 c3 c4 c6 f4 f6
    generalize (w.setCell ⟨d, 6, none⟩ (.int .i64 ((ws : Int) + 1))) = W1 at HL HT ⊢
  case' some =>
    obtain ⟨l, rfl⟩ : ∃ l', l = l' + 1 := ⟨l - 1, by
      have : l ≠ 0 := fun e => hc p (by rw [hm, e])
      omega⟩
    simp [rCells, hp, leftI, hm] at c0 c3 c4 c6
    have hlt := ho.cut _ hm
    simp only at hlt
    have hT := turn2 (w := w) (Z := Z) (d := d) 4 6 (.int .i64 (l : Int)) (.int .i64 ((m.ws : Int) + 1)) hl.zd
    have hL := hl.turn (w' := (w.setCell ⟨d, 4, none⟩ (.int .i64 (l : Int))).setCell ⟨d, 6, none⟩ (.int .i64 ((m.ws : Int) + 1))) (m' := begun m) (pk' := pk) (by rw [cell_set _ (cell_set _ hl.box), begun_cells2 m vd vc pk l p hm]) (fun k hk => set2_other _ _ _ _ k hk) (by simp) rfl rfl (by intro p' hh; simp [begun, counted, afterLets, hm] at hh; have := hl.pick _ hm; subst hh; exact this)
    have HL := Lib.hid hL; have HT := Lib.hid hT
    have hws' : m.ws < 4611686018427387904 := by omega
    generalize m.ws = ws at c6 hws' HL HT
    have e2 : True → ((l : Int) + 1) - 1 = (l : Int) := fun _ => by omega
    have h1 : (0 : Int) < (l : Int) + 1 := by omega
    have e3 : True → (((l : Int) + 1) == 0) = false := fun _ => by rw [beq_eq_false_iff_ne]; omega
    have hlb : l < 9223372036854775807 := by omega
    clear hl ho hp hc hx h8 hws hv hap hk hL hT hm hlt
    go_enter Tryd.func44, Tryd.ntmps44
    go_wp2_with fail
    refine HS.out.mono ?_
    rintro e w' ⟨rfl, rfl⟩
    go_upto_region 13 with fail
    clear c0 c3 c4 c6 f4 f6 e2 h1 e3
    generalize ((w.setCell ⟨d, 4, none⟩ (.int .i64 (l : Int))).setCell ⟨d, 6, none⟩ (.int .i64 ((ws : Int) + 1))) = W1 at HL HT ⊢
  all_goals
    have HKb := Lib.hid (show k < (begun m).n from HK.out)
    have HVb := Lib.hid (show SlI W1 .u8 (.slice a 64 c) x by
      obtain ⟨h1, a', c', e, hcl⟩ := id HV.out
      refine ⟨h1, a', c', e, fun h0 => ?_⟩
      obtain ⟨b, off, e2, hcell⟩ := hcl h0
      have e1 : a = some ⟨b, off, none⟩ := by rw [← e2]; injection e
      exact ⟨b, off, e2, fun j hj => (World.cell?_of_block (a := ⟨b, off + j, none⟩) (HT.out.block b (cell_lt (hcell j hj)) (HAp.out b off e1))).trans (hcell j hj)⟩)
    have hlenM : (begun m).cache.length ≤ 4096 := hlen
    have hcv := conv_sl HVb.out
    obtain ⟨M, hM⟩ : ∃ M, begun m = M := ⟨_, rfl⟩
    rw [hM] at HO HL HKb hlenM
    have HM := Lib.hid hM
    clear hM
    clear hlen hws' HS HV HAp HK
    by_cases hj : (keys M.cache).idxOf k < M.cache.length
    · have HP := Lib.hid (show putC (begun m) k x = putAt M ((keys M.cache).idxOf k) k x by rw [HM.out]; unfold putC; rw [if_pos hj])
      have hj2 := idx_hit (ns := keys M.cache) (k := k) (by rw [keys_len]; exact hj)
      generalize (keys M.cache).idxOf k = j at hj hj2 HP
      have HJ := Lib.hid hj2
      obtain ⟨g, cap, rfl⟩ := row_form HL.out.cache (by omega)
      have c2 := HL.out.cell 2
      simp [rCells] at c2
      clear hj2
      go_wp2_with fail
      go_loop [7] (fun i => ∃ q : Nat, q ≤ j ∧ i = .int .i64 q) (fun i => M.cache.length - (intOf i).toNat)
      case atStart => exact ⟨0, by omega, rfl⟩
      case round =>
        obtain ⟨q, hq, rfl⟩ := hrel
        obtain ⟨g2, cap2, hg2, b0, b1⟩ := HL.out.slot (j := q) (by omega)
        obtain rfl : g = g2 := by injection hg2 with h1; injection h1 with h1; injection h1
        clear hg2
        have hqI : (q : Int) < (M.cache.length : Int) := by omega
        have hq0 : (0 : Int) ≤ (q : Int) := by omega
        by_cases hqj : q = j
        · subst hqj
          rw [HJ.out.1] at b0
          have f1 : W1.frozen? ⟨g, q * 2 + 1, none⟩ = false := HL.out.cache.frozenAt _
          have hcd : (convert 22 9 (.slice a 64 c)).run Tryd.prog { heap := W1.heap, tape := W1.tape, drawn := W1.drawn + 1, os := W1.os, output := W1.output } = .ok (.string (strN x)) { heap := W1.heap, tape := W1.tape, drawn := W1.drawn + 1, os := W1.os, output := W1.output } := conv_sl (w := W1.drew) HVb.out
          clear hcv
          have HPt := Lib.hid (HL.out.drew.slot_set hj HJ.out.1 (k := k) (x := x) rfl)
          have HOk := Lib.hid (putAt_ok HO.out HJ.out.1 HX.out H8.out HKb.out)
          have hce : (convert 22 9 (.slice a 64 c)).run Tryd.prog W1.drew = .ok (.string (strN x)) W1.drew := conv_sl (w := W1.drew) HVb.out
          go_upto_region 17 with fail
          refine wp_region_any (by kernel_rfl) ?_
          change wpAny _ _ _ _ _ _ _ (World.drew _)
          refine wpAny_take (i := 0) (oi := { dst := some 79, op := Op.move (Operand.tmp 0), type := 26, pos := "ref.go:92", after := #[], guard := none }) (v := ?_) rfl (by kernel_rfl) (by kernel_rfl) (by kernel_rfl) (fun _ _ _ h => h) (Or.inl ⟨by rfl, ?_⟩) ?_
          rotate_left 1
          · intro W
            go_simp
            try with_reducible rfl
            skip
          try simp only [Act.put, List.setIfInBounds_toArray, List.set_cons_zero, List.set_cons_succ]
          refine wpAny_take (i := 1) (oi := { dst := some 80, op := Op.nilCheck (Operand.tmp 79), type := 0, pos := "ref.go:92", after := #[{ on := 0, ground := Ground.data }], guard := none }) (v := ?_) rfl (by kernel_rfl) (by kernel_rfl) (by kernel_rfl) (fun _ _ _ h => h) (Or.inl ⟨by rfl, ?_⟩) ?_
          rotate_left 1
          · intro W
            go_simp
            try with_reducible rfl
            skip
          try simp only [Act.put, List.setIfInBounds_toArray, List.set_cons_zero, List.set_cons_succ]
          refine wpAny_take (i := 2) (oi := { dst := some 81, op := Op.fieldAddr 73 (Operand.tmp 80) 2, type := 0, pos := "ref.go:92", after := #[{ on := 1, ground := Ground.data }], guard := none }) (v := ?_) rfl (by kernel_rfl) (by kernel_rfl) (by kernel_rfl) (fun _ _ _ h => h) (Or.inl ⟨by rfl, ?_⟩) ?_
          rotate_left 1
          · intro W
            go_simp
            try with_reducible rfl
            skip
          try simp only [Act.put, List.setIfInBounds_toArray, List.set_cons_zero, List.set_cons_succ]
          refine wpAny_take (i := 4) (oi := { dst := some 83, op := Op.move (Operand.tmp 7), type := 3, pos := "ref.go:92", after := #[], guard := none }) (v := ?_) rfl (by kernel_rfl) (by kernel_rfl) (by kernel_rfl) (fun _ _ _ h => h) (Or.inl ⟨by rfl, ?_⟩) ?_
          rotate_left 1
          · intro W
            go_simp
            try with_reducible rfl
            skip
          try simp only [Act.put, List.setIfInBounds_toArray, List.set_cons_zero, List.set_cons_succ]
          refine wpAny_take (i := 5) (oi := { dst := some 84, op := Op.move (Operand.tmp 2), type := 22, pos := "ref.go:92", after := #[], guard := none }) (v := ?_) rfl (by kernel_rfl) (by kernel_rfl) (by kernel_rfl) (fun _ _ _ h => h) (Or.inl ⟨by rfl, ?_⟩) ?_
          rotate_left 1
          · intro W
            go_simp
            try with_reducible rfl
            skip
          try simp only [Act.put, List.setIfInBounds_toArray, List.set_cons_zero, List.set_cons_succ]
          refine wpAny_ready (rs := [3, 6]) (by kernel_rfl) (by simp) ?_
          refine AllReady.cons (o := { dst := some 82, op := Op.load 71 (Operand.tmp 81), type := 71, pos := "ref.go:92", after := #[{ on := 2, ground := Ground.data }], guard := none }) rfl (fun K hK => ?_) ?_
          · go_simp
            refine hK _ _ ?_
            try clear hK K
            try simp only [Act.put, List.setIfInBounds_toArray, List.set_cons_zero, List.set_cons_succ]
            refine wpAny_ready (rs := [6]) (by kernel_rfl) (by simp) ?_
            refine AllReady.cons (o := { dst := some 85, op := Op.convert 22 9 (Operand.tmp 84), type := 9, pos := "ref.go:92", after := #[{ on := 5, ground := Ground.data }], guard := none }) rfl (fun K hK => ?_) ?_
            · go_simp
              refine hK _ _ ?_
              try clear hK K
              try simp only [Act.put, List.setIfInBounds_toArray, List.set_cons_zero, List.set_cons_succ]
              refine wpAny_ready (rs := [7]) (by kernel_rfl) (by simp) ?_
              refine AllReady.cons (o := { dst := some 86, op := Op.indexAddr 71 (Operand.tmp 82) (Operand.tmp 83), type := 0, pos := "ref.go:92", after := #[{ on := 3, ground := Ground.data }, { on := 4, ground := Ground.data }, { on := 0, ground := Ground.phase }, { on := 1, ground := Ground.phase }, { on := 2, ground := Ground.phase }, { on := 3, ground := Ground.phase }, { on := 4, ground := Ground.phase }, { on := 5, ground := Ground.phase }, { on := 6, ground := Ground.phase }], guard := none }) rfl (fun K hK => ?_) ?_
              · go_simp
                refine hK _ _ ?_
                try clear hK K
                try simp only [Act.put, List.setIfInBounds_toArray, List.set_cons_zero, List.set_cons_succ]
                refine wpAny_take (i := 8) (oi := { dst := some 87, op := Op.fieldAddr 112 (Operand.tmp 86) 1, type := 0, pos := "ref.go:92", after := #[{ on := 7, ground := Ground.data }, { on := 0, ground := Ground.phase }, { on := 1, ground := Ground.phase }, { on := 2, ground := Ground.phase }, { on := 3, ground := Ground.phase }, { on := 4, ground := Ground.phase }, { on := 5, ground := Ground.phase }, { on := 6, ground := Ground.phase }], guard := none }) (v := ?_) rfl (by kernel_rfl) (by kernel_rfl) (by kernel_rfl) (fun _ _ _ h => h) (Or.inl ⟨by rfl, ?_⟩) ?_
                rotate_left 1
                · intro W
                  go_simp
                  try with_reducible rfl
                  skip
                try simp only [Act.put, List.setIfInBounds_toArray, List.set_cons_zero, List.set_cons_succ]
                refine wpAny_ready (rs := [9]) (by kernel_rfl) (by simp) ?_
                refine AllReady.cons (o := { dst := none, op := Op.store 9 (Operand.tmp 87) (Operand.tmp 85), type := 0, pos := "ref.go:92", after := #[{ on := 8, ground := Ground.data }, { on := 6, ground := Ground.data }, { on := 0, ground := Ground.phase }, { on := 1, ground := Ground.phase }, { on := 2, ground := Ground.phase }, { on := 3, ground := Ground.phase }, { on := 4, ground := Ground.phase }, { on := 5, ground := Ground.phase }, { on := 6, ground := Ground.phase }], guard := none }) rfl (fun K hK => ?_) ?_
                · go_simp
                  refine hK _ _ ?_
                  try clear hK K
                  try simp only [Act.put, List.setIfInBounds_toArray, List.set_cons_zero, List.set_cons_succ]
                  refine wpAny_done (by kernel_rfl) ?_ _
                  go_wp2
                  go_ret
                  rw [HP.out]
                  exact ⟨rfl, RAt.more ⟨HOk.out, _, _, _, HPt.out.1⟩, (HT.out.trans' (Turn.drew Z W1)).trans' HPt.out.2⟩
                exact AllReady.nil
              exact AllReady.nil
            exact AllReady.nil
          refine AllReady.cons (o := { dst := some 85, op := Op.convert 22 9 (Operand.tmp 84), type := 9, pos := "ref.go:92", after := #[{ on := 5, ground := Ground.data }], guard := none }) rfl (fun K hK => ?_) ?_
          · go_simp
            refine hK _ _ ?_
            try clear hK K
            try simp only [Act.put, List.setIfInBounds_toArray, List.set_cons_zero, List.set_cons_succ]
            refine wpAny_ready (rs := [3]) (by kernel_rfl) (by simp) ?_
            refine AllReady.cons (o := { dst := some 82, op := Op.load 71 (Operand.tmp 81), type := 71, pos := "ref.go:92", after := #[{ on := 2, ground := Ground.data }], guard := none }) rfl (fun K hK => ?_) ?_
            · go_simp
              refine hK _ _ ?_
              try clear hK K
              try simp only [Act.put, List.setIfInBounds_toArray, List.set_cons_zero, List.set_cons_succ]
              refine wpAny_ready (rs := [7]) (by kernel_rfl) (by simp) ?_
              refine AllReady.cons (o := { dst := some 86, op := Op.indexAddr 71 (Operand.tmp 82) (Operand.tmp 83), type := 0, pos := "ref.go:92", after := #[{ on := 3, ground := Ground.data }, { on := 4, ground := Ground.data }, { on := 0, ground := Ground.phase }, { on := 1, ground := Ground.phase }, { on := 2, ground := Ground.phase }, { on := 3, ground := Ground.phase }, { on := 4, ground := Ground.phase }, { on := 5, ground := Ground.phase }, { on := 6, ground := Ground.phase }], guard := none }) rfl (fun K hK => ?_) ?_
              · go_simp
                refine hK _ _ ?_
                try clear hK K
                try simp only [Act.put, List.setIfInBounds_toArray, List.set_cons_zero, List.set_cons_succ]
                refine wpAny_take (i := 8) (oi := { dst := some 87, op := Op.fieldAddr 112 (Operand.tmp 86) 1, type := 0, pos := "ref.go:92", after := #[{ on := 7, ground := Ground.data }, { on := 0, ground := Ground.phase }, { on := 1, ground := Ground.phase }, { on := 2, ground := Ground.phase }, { on := 3, ground := Ground.phase }, { on := 4, ground := Ground.phase }, { on := 5, ground := Ground.phase }, { on := 6, ground := Ground.phase }], guard := none }) (v := ?_) rfl (by kernel_rfl) (by kernel_rfl) (by kernel_rfl) (fun _ _ _ h => h) (Or.inl ⟨by rfl, ?_⟩) ?_
                rotate_left 1
                · intro W
                  go_simp
                  try with_reducible rfl
                  skip
                try simp only [Act.put, List.setIfInBounds_toArray, List.set_cons_zero, List.set_cons_succ]
                refine wpAny_ready (rs := [9]) (by kernel_rfl) (by simp) ?_
                refine AllReady.cons (o := { dst := none, op := Op.store 9 (Operand.tmp 87) (Operand.tmp 85), type := 0, pos := "ref.go:92", after := #[{ on := 8, ground := Ground.data }, { on := 6, ground := Ground.data }, { on := 0, ground := Ground.phase }, { on := 1, ground := Ground.phase }, { on := 2, ground := Ground.phase }, { on := 3, ground := Ground.phase }, { on := 4, ground := Ground.phase }, { on := 5, ground := Ground.phase }, { on := 6, ground := Ground.phase }], guard := none }) rfl (fun K hK => ?_) ?_
                · go_simp
                  refine hK _ _ ?_
                  try clear hK K
                  try simp only [Act.put, List.setIfInBounds_toArray, List.set_cons_zero, List.set_cons_succ]
                  refine wpAny_done (by kernel_rfl) ?_ _
                  go_wp2
                  go_ret
                  rw [HP.out]
                  exact ⟨rfl, RAt.more ⟨HOk.out, _, _, _, HPt.out.1⟩, (HT.out.trans' (Turn.drew Z W1)).trans' HPt.out.2⟩
                exact AllReady.nil
              exact AllReady.nil
            exact AllReady.nil
          exact AllReady.nil
        · have hne := HJ.out.2 q (by omega)
          have e2 : True → ((((keys M.cache).getD q 0 : Nat) : Int) == (k : Int)) = false := fun _ => by rw [beq_eq_false_iff_ne]; omega
          generalize (keys M.cache).getD q 0 = y at b0 e2 hne
          clear hne hcv b1
          have HQ := Lib.hid hqj
          clear hqj
          go_wp2
          go_round
          case rel => exact ⟨q + 1, by have := HQ.out; omega, by go_num⟩
          case measure => simp [intOf]; omega
    · have HP := Lib.hid (show putC (begun m) k x = putNew M k x by rw [HM.out]; unfold putC; rw [if_neg hj])
      have hj2 := idx_miss (ns := keys M.cache) (k := k) (by rw [keys_len]; exact hj)
      have HJ := Lib.hid hj2
      obtain ⟨ac, cc, hvc⟩ := own_any HL.out.cache
      have HVc := Lib.hid hvc
      have c2 := HL.out.cell 2
      simp [rCells] at c2
      rw [hvc] at c2
      clear hj2 hj hvc
      go_wp2_with fail
      go_loop [7] (fun i => ∃ q : Nat, q ≤ M.cache.length ∧ i = .int .i64 q) (fun i => M.cache.length - (intOf i).toNat)
      case atStart => exact ⟨0, by omega, rfl⟩
      case round =>
        obtain ⟨q, hq, rfl⟩ := hrel
        have hq0 : (0 : Int) ≤ (q : Int) := by omega
        by_cases hqn : q < M.cache.length
        · obtain ⟨g2, cap2, hg2, b0, -⟩ := HL.out.slot (j := q) hqn
          have hac : ac = some ⟨g2, 0, none⟩ := by rw [HVc.out] at hg2; injection hg2
          subst hac
          clear hg2
          have hqI : (q : Int) < (M.cache.length : Int) := by omega
          have hne := HJ.out q (by rw [keys_len]; exact hqn)
          have e2 : True → ((((keys M.cache).getD q 0 : Nat) : Int) == (k : Int)) = false := fun _ => by rw [beq_eq_false_iff_ne]; omega
          generalize (keys M.cache).getD q 0 = y at b0 e2 hne
          clear hne hcv
          go_wp2
          go_round
          case rel => exact ⟨q + 1, by omega, by go_num⟩
          case measure => simp [intOf]; omega
        · obtain rfl : q = M.cache.length := by omega
          have hqI : ¬ ((M.cache.length : Nat) : Int) < ((M.cache.length : Nat) : Int) := by omega
          have HOk := Lib.hid (putNew_ok (x := x) HO.out (by have := HJ.out; rw [keys_len] at this; exact this) HX.out H8.out HKb.out)
          have hcd : (convert 22 9 (.slice a 64 c)).run Tryd.prog W1.drew = .ok (.string (strN x)) W1.drew := conv_sl (w := W1.drew) HVb.out
          have hce : (convert 22 9 (.slice a 64 c)).run Tryd.prog { heap := W1.heap, tape := W1.tape, drawn := W1.drawn + 1, os := W1.os, output := W1.output } = .ok (.string (strN x)) { heap := W1.heap, tape := W1.tape, drawn := W1.drawn + 1, os := W1.os, output := W1.output } := conv_sl (w := W1.drew) HVb.out
          have hdl : d < W1.heap.size := HL.out.lt
          have HCd := Lib.hid (show (W1.drew.alloc (.cells #[.int .i64 (k : Nat), .string (strN x)] 112)).ownsRow 0 112 2 (.slice ac M.cache.length cc) M.cache.length (slots M.cache) from by
            have := HL.out.cache
            rw [HVc.out] at this
            exact (own_stays (w' := W1.drew) this (fun _ _ => rfl)).alloc _)
          have HDd := Lib.hid (show (W1.drew.alloc (.cells #[.int .i64 (k : Nat), .string (strN x)] 112)).heap[d]? = some (.cells (rCells M vd (.slice ac M.cache.length cc) pk) 73 (0, 0)) from by
            have := HL.out.box
            rw [HVc.out] at this
            exact (heap_alloc_old W1.drew _ hdl).trans this)
          have HNw := Lib.hid (show ∀ j u, ([.int .i64 (k : Nat), .string (strN x)] : List Value)[j]? = some u → (W1.drew.alloc (.cells #[.int .i64 (k : Nat), .string (strN x)] 112)).cell? ((⟨W1.heap.size, 0, none⟩ : Addr).add j) = some u from fun j u hu => by
            rw [add_plain']
            exact range_of_block (b := W1.heap.size) (cs := [.int .i64 (k : Nat), .string (strN x)]) (alloc_at W1.drew _) j u hu)
          clear hcv
          go_upto_region 19 with fail
          refine wp_region_any (by kernel_rfl) ?_
          change wpAny _ _ _ _ _ _ _ (World.drew _)
          refine wpAny_take (i := 0) (oi := { dst := some 88, op := Op.move (Operand.tmp 0), type := 26, pos := "ref.go:96", after := #[], guard := none }) (v := ?_) rfl (by kernel_rfl) (by kernel_rfl) (by kernel_rfl) (fun _ _ _ h => h) (Or.inl ⟨by rfl, ?_⟩) ?_
          rotate_left 1
          · intro W
            go_simp
            try with_reducible rfl
            skip
          try simp only [Act.put, List.setIfInBounds_toArray, List.set_cons_zero, List.set_cons_succ]
          refine wpAny_take (i := 1) (oi := { dst := some 89, op := Op.move (Operand.tmp 0), type := 26, pos := "ref.go:96", after := #[], guard := none }) (v := ?_) rfl (by kernel_rfl) (by kernel_rfl) (by kernel_rfl) (fun _ _ _ h => h) (Or.inl ⟨by rfl, ?_⟩) ?_
          rotate_left 1
          · intro W
            go_simp
            try with_reducible rfl
            skip
          try simp only [Act.put, List.setIfInBounds_toArray, List.set_cons_zero, List.set_cons_succ]
          refine wpAny_take (i := 2) (oi := { dst := some 90, op := Op.nilCheck (Operand.tmp 89), type := 0, pos := "ref.go:96", after := #[{ on := 1, ground := Ground.data }], guard := none }) (v := ?_) rfl (by kernel_rfl) (by kernel_rfl) (by kernel_rfl) (fun _ _ _ h => h) (Or.inl ⟨by rfl, ?_⟩) ?_
          rotate_left 1
          · intro W
            go_simp
            try with_reducible rfl
            skip
          try simp only [Act.put, List.setIfInBounds_toArray, List.set_cons_zero, List.set_cons_succ]
          refine wpAny_take (i := 3) (oi := { dst := some 91, op := Op.fieldAddr 73 (Operand.tmp 90) 2, type := 0, pos := "ref.go:96", after := #[{ on := 2, ground := Ground.data }], guard := none }) (v := ?_) rfl (by kernel_rfl) (by kernel_rfl) (by kernel_rfl) (fun _ _ _ h => h) (Or.inl ⟨by rfl, ?_⟩) ?_
          rotate_left 1
          · intro W
            go_simp
            try with_reducible rfl
            skip
          try simp only [Act.put, List.setIfInBounds_toArray, List.set_cons_zero, List.set_cons_succ]
          refine wpAny_take (i := 5) (oi := { dst := some 93, op := Op.move (Operand.tmp 1), type := 3, pos := "ref.go:96", after := #[], guard := none }) (v := ?_) rfl (by kernel_rfl) (by kernel_rfl) (by kernel_rfl) (fun _ _ _ h => h) (Or.inl ⟨by rfl, ?_⟩) ?_
          rotate_left 1
          · intro W
            go_simp
            try with_reducible rfl
            skip
          try simp only [Act.put, List.setIfInBounds_toArray, List.set_cons_zero, List.set_cons_succ]
          refine wpAny_take (i := 6) (oi := { dst := some 94, op := Op.move (Operand.tmp 2), type := 22, pos := "ref.go:96", after := #[], guard := none }) (v := ?_) rfl (by kernel_rfl) (by kernel_rfl) (by kernel_rfl) (fun _ _ _ h => h) (Or.inl ⟨by rfl, ?_⟩) ?_
          rotate_left 1
          · intro W
            go_simp
            try with_reducible rfl
            skip
          try simp only [Act.put, List.setIfInBounds_toArray, List.set_cons_zero, List.set_cons_succ]
          refine wpAny_ready (rs := [4, 7]) (by kernel_rfl) (by simp) ?_
          refine AllReady.cons (o := { dst := some 92, op := Op.load 71 (Operand.tmp 91), type := 71, pos := "ref.go:96", after := #[{ on := 3, ground := Ground.data }], guard := none }) rfl (fun K hK => ?_) ?_
          · go_simp
            refine hK _ _ ?_
            try clear hK K
            try simp only [Act.put, List.setIfInBounds_toArray, List.set_cons_zero, List.set_cons_succ]
            refine wpAny_ready (rs := [7]) (by kernel_rfl) (by simp) ?_
            refine AllReady.cons (o := { dst := some 95, op := Op.convert 22 9 (Operand.tmp 94), type := 9, pos := "ref.go:96", after := #[{ on := 6, ground := Ground.data }], guard := none }) rfl (fun K hK => ?_) ?_
            · go_simp
              refine hK _ _ ?_
              try clear hK K
              try simp only [Act.put, List.setIfInBounds_toArray, List.set_cons_zero, List.set_cons_succ]
              refine wpAny_take (i := 8) (oi := { dst := some 96, op := Op.build 112 #[(0, Operand.tmp 93), (1, Operand.tmp 95)], type := 112, pos := "ref.go:96", after := #[{ on := 5, ground := Ground.data }, { on := 7, ground := Ground.data }], guard := none }) (v := ?_) rfl (by kernel_rfl) (by kernel_rfl) (by kernel_rfl) (fun _ _ _ h => h) (Or.inl ⟨by rfl, ?_⟩) ?_
              rotate_left 1
              · intro W
                go_simp
                try with_reducible rfl
                skip
              try simp only [Act.put, List.setIfInBounds_toArray, List.set_cons_zero, List.set_cons_succ]
              refine wpAny_ready (rs := [9]) (by kernel_rfl) (by simp) ?_
              refine AllReady.cons (o := { dst := some 97, op := Op.buildSlice 71 1 #[(0, Operand.tmp 96)], type := 71, pos := "ref.go:96", after := #[{ on := 8, ground := Ground.data }], guard := none }) rfl (fun K hK => ?_) ?_
              · go_simp
                refine hK _ _ ?_
                try clear hK K
                try simp only [Act.put, List.setIfInBounds_toArray, List.set_cons_zero, List.set_cons_succ]
                refine wpAny_ready (rs := [10]) (by kernel_rfl) (by simp) ?_
                refine AllReady.cons (o := { dst := some 98, op := Op.call { callee := Callee.builtin Builtin.append, args := #[Operand.tmp 92, Operand.tmp 97], argTypes := #[71, 71] }, type := 71, pos := "ref.go:96", after := #[{ on := 4, ground := Ground.data }, { on := 9, ground := Ground.data }], guard := none }) rfl (fun K hK => ?_) ?_
                · obtain ⟨i0, z0, hi0, hz0, hs0, hb0, hzs0⟩ := slot_parts infoSlot
                  refine step_append_own_at rfl (.tmp 92) (.tmp 97) 71 rfl 0 112 i0 z0 2 24 Tryd.underlying71 hi0 hz0 hs0 hb0 hzs0 (by decide) _ M.cache.length (slots M.cache) rfl HCd.out ⟨W1.heap.size, 0, none⟩ 1 1 [.int .i64 (k : Nat), .string (strN x)] rfl rfl HNw.out (by intro v hv; simp at hv; rcases hv with rfl | rfl <;> rfl) (by simp [maxLen]; omega) (by omega) (Nat.zero_le _) ?_
                  intro v3 w3 ho3 hg3 _ hat3
                  obtain ⟨g3, cap3, rfl⟩ := row_form ho3 (by omega)
                  have hd3 : w3.heap[d]? = some (.cells (rCells M vd (.slice ac M.cache.length cc) pk) 73 (0, 0)) := (hg3.block d (by simp; omega) (fun e => own_ne_box HL.out.cache HL.out.box (by decide) (by rw [HVc.out]; exact e.symm))).trans HDd.out
                  have c2' : w3.cell? ⟨d, 2, none⟩ = some (.slice ac M.cache.length cc) := by simp [World.cell?, hd3, rCells]
                  have f2' : w3.frozen? ⟨d, 2, none⟩ = false := by simp [World.frozen?, hd3]
                  have HO3 := Lib.hid ho3; have HG3 := Lib.hid hg3; have HA3 := Lib.hid hat3; have HD3 := Lib.hid hd3
                  clear ho3 hg3 hat3 hd3 hi0 hz0 hs0 hb0 hzs0
                  refine hK _ _ ?_
                  try clear hK K
                  try simp only [Act.put, List.setIfInBounds_toArray, List.set_cons_zero, List.set_cons_succ]
                  refine wpAny_take (i := 11) (oi := { dst := some 99, op := Op.nilCheck (Operand.tmp 88), type := 0, pos := "ref.go:96", after := #[{ on := 0, ground := Ground.data }, { on := 0, ground := Ground.phase }, { on := 1, ground := Ground.phase }, { on := 2, ground := Ground.phase }, { on := 3, ground := Ground.phase }, { on := 4, ground := Ground.phase }, { on := 5, ground := Ground.phase }, { on := 6, ground := Ground.phase }, { on := 7, ground := Ground.phase }, { on := 8, ground := Ground.phase }, { on := 9, ground := Ground.phase }, { on := 10, ground := Ground.phase }], guard := none }) (v := ?_) rfl (by kernel_rfl) (by kernel_rfl) (by kernel_rfl) (fun _ _ _ h => h) (Or.inl ⟨by rfl, ?_⟩) ?_
                  rotate_left 1
                  · intro W
                    go_simp
                    try with_reducible rfl
                    skip
                  try simp only [Act.put, List.setIfInBounds_toArray, List.set_cons_zero, List.set_cons_succ]
                  refine wpAny_take (i := 12) (oi := { dst := some 100, op := Op.fieldAddr 73 (Operand.tmp 99) 2, type := 0, pos := "ref.go:96", after := #[{ on := 11, ground := Ground.data }, { on := 0, ground := Ground.phase }, { on := 1, ground := Ground.phase }, { on := 2, ground := Ground.phase }, { on := 3, ground := Ground.phase }, { on := 4, ground := Ground.phase }, { on := 5, ground := Ground.phase }, { on := 6, ground := Ground.phase }, { on := 7, ground := Ground.phase }, { on := 8, ground := Ground.phase }, { on := 9, ground := Ground.phase }, { on := 10, ground := Ground.phase }], guard := none }) (v := ?_) rfl (by kernel_rfl) (by kernel_rfl) (by kernel_rfl) (fun _ _ _ h => h) (Or.inl ⟨by rfl, ?_⟩) ?_
                  rotate_left 1
                  · intro W
                    go_simp
                    try with_reducible rfl
                    skip
                  try simp only [Act.put, List.setIfInBounds_toArray, List.set_cons_zero, List.set_cons_succ]
                  refine wpAny_ready (rs := [13]) (by kernel_rfl) (by simp) ?_
                  refine AllReady.cons (o := { dst := none, op := Op.store 71 (Operand.tmp 100) (Operand.tmp 98), type := 0, pos := "ref.go:96", after := #[{ on := 12, ground := Ground.data }, { on := 10, ground := Ground.data }, { on := 10, ground := Ground.chain }, { on := 0, ground := Ground.phase }, { on := 1, ground := Ground.phase }, { on := 2, ground := Ground.phase }, { on := 3, ground := Ground.phase }, { on := 4, ground := Ground.phase }, { on := 5, ground := Ground.phase }, { on := 6, ground := Ground.phase }, { on := 7, ground := Ground.phase }, { on := 8, ground := Ground.phase }, { on := 9, ground := Ground.phase }, { on := 10, ground := Ground.phase }], guard := none }) rfl (fun K hK => ?_) ?_
                  · go_simp
                    refine hK _ _ ?_
                    try clear hK K
                    try simp only [Act.put, List.setIfInBounds_toArray, List.set_cons_zero, List.set_cons_succ]
                    refine wpAny_done (by kernel_rfl) ?_ _
                    go_wp2
                    go_ret
                    obtain ⟨hA, hB⟩ := rput_end HL.out HVc.out HT.out HOk.out HO3.out HG3.out HA3.out HD3.out
                    rw [HP.out]; exact ⟨rfl, hA, hB⟩
                  exact AllReady.nil
                exact AllReady.nil
              exact AllReady.nil
            exact AllReady.nil
          refine AllReady.cons (o := { dst := some 95, op := Op.convert 22 9 (Operand.tmp 94), type := 9, pos := "ref.go:96", after := #[{ on := 6, ground := Ground.data }], guard := none }) rfl (fun K hK => ?_) ?_
          · go_simp
            refine hK _ _ ?_
            try clear hK K
            try simp only [Act.put, List.setIfInBounds_toArray, List.set_cons_zero, List.set_cons_succ]
            refine wpAny_take (i := 8) (oi := { dst := some 96, op := Op.build 112 #[(0, Operand.tmp 93), (1, Operand.tmp 95)], type := 112, pos := "ref.go:96", after := #[{ on := 5, ground := Ground.data }, { on := 7, ground := Ground.data }], guard := none }) (v := ?_) rfl (by kernel_rfl) (by kernel_rfl) (by kernel_rfl) (fun _ _ _ h => h) (Or.inl ⟨by rfl, ?_⟩) ?_
            rotate_left 1
            · intro W
              go_simp
              try with_reducible rfl
              skip
            try simp only [Act.put, List.setIfInBounds_toArray, List.set_cons_zero, List.set_cons_succ]
            refine wpAny_ready (rs := [4, 9]) (by kernel_rfl) (by simp) ?_
            refine AllReady.cons (o := { dst := some 92, op := Op.load 71 (Operand.tmp 91), type := 71, pos := "ref.go:96", after := #[{ on := 3, ground := Ground.data }], guard := none }) rfl (fun K hK => ?_) ?_
            · go_simp
              refine hK _ _ ?_
              try clear hK K
              try simp only [Act.put, List.setIfInBounds_toArray, List.set_cons_zero, List.set_cons_succ]
              refine wpAny_ready (rs := [9]) (by kernel_rfl) (by simp) ?_
              refine AllReady.cons (o := { dst := some 97, op := Op.buildSlice 71 1 #[(0, Operand.tmp 96)], type := 71, pos := "ref.go:96", after := #[{ on := 8, ground := Ground.data }], guard := none }) rfl (fun K hK => ?_) ?_
              · go_simp
                refine hK _ _ ?_
                try clear hK K
                try simp only [Act.put, List.setIfInBounds_toArray, List.set_cons_zero, List.set_cons_succ]
                refine wpAny_ready (rs := [10]) (by kernel_rfl) (by simp) ?_
                refine AllReady.cons (o := { dst := some 98, op := Op.call { callee := Callee.builtin Builtin.append, args := #[Operand.tmp 92, Operand.tmp 97], argTypes := #[71, 71] }, type := 71, pos := "ref.go:96", after := #[{ on := 4, ground := Ground.data }, { on := 9, ground := Ground.data }], guard := none }) rfl (fun K hK => ?_) ?_
                · obtain ⟨i0, z0, hi0, hz0, hs0, hb0, hzs0⟩ := slot_parts infoSlot
                  refine step_append_own_at rfl (.tmp 92) (.tmp 97) 71 rfl 0 112 i0 z0 2 24 Tryd.underlying71 hi0 hz0 hs0 hb0 hzs0 (by decide) _ M.cache.length (slots M.cache) rfl HCd.out ⟨W1.heap.size, 0, none⟩ 1 1 [.int .i64 (k : Nat), .string (strN x)] rfl rfl HNw.out (by intro v hv; simp at hv; rcases hv with rfl | rfl <;> rfl) (by simp [maxLen]; omega) (by omega) (Nat.zero_le _) ?_
                  intro v3 w3 ho3 hg3 _ hat3
                  obtain ⟨g3, cap3, rfl⟩ := row_form ho3 (by omega)
                  have hd3 : w3.heap[d]? = some (.cells (rCells M vd (.slice ac M.cache.length cc) pk) 73 (0, 0)) := (hg3.block d (by simp; omega) (fun e => own_ne_box HL.out.cache HL.out.box (by decide) (by rw [HVc.out]; exact e.symm))).trans HDd.out
                  have c2' : w3.cell? ⟨d, 2, none⟩ = some (.slice ac M.cache.length cc) := by simp [World.cell?, hd3, rCells]
                  have f2' : w3.frozen? ⟨d, 2, none⟩ = false := by simp [World.frozen?, hd3]
                  have HO3 := Lib.hid ho3; have HG3 := Lib.hid hg3; have HA3 := Lib.hid hat3; have HD3 := Lib.hid hd3
                  clear ho3 hg3 hat3 hd3 hi0 hz0 hs0 hb0 hzs0
                  refine hK _ _ ?_
                  try clear hK K
                  try simp only [Act.put, List.setIfInBounds_toArray, List.set_cons_zero, List.set_cons_succ]
                  refine wpAny_take (i := 11) (oi := { dst := some 99, op := Op.nilCheck (Operand.tmp 88), type := 0, pos := "ref.go:96", after := #[{ on := 0, ground := Ground.data }, { on := 0, ground := Ground.phase }, { on := 1, ground := Ground.phase }, { on := 2, ground := Ground.phase }, { on := 3, ground := Ground.phase }, { on := 4, ground := Ground.phase }, { on := 5, ground := Ground.phase }, { on := 6, ground := Ground.phase }, { on := 7, ground := Ground.phase }, { on := 8, ground := Ground.phase }, { on := 9, ground := Ground.phase }, { on := 10, ground := Ground.phase }], guard := none }) (v := ?_) rfl (by kernel_rfl) (by kernel_rfl) (by kernel_rfl) (fun _ _ _ h => h) (Or.inl ⟨by rfl, ?_⟩) ?_
                  rotate_left 1
                  · intro W
                    go_simp
                    try with_reducible rfl
                    skip
                  try simp only [Act.put, List.setIfInBounds_toArray, List.set_cons_zero, List.set_cons_succ]
                  refine wpAny_take (i := 12) (oi := { dst := some 100, op := Op.fieldAddr 73 (Operand.tmp 99) 2, type := 0, pos := "ref.go:96", after := #[{ on := 11, ground := Ground.data }, { on := 0, ground := Ground.phase }, { on := 1, ground := Ground.phase }, { on := 2, ground := Ground.phase }, { on := 3, ground := Ground.phase }, { on := 4, ground := Ground.phase }, { on := 5, ground := Ground.phase }, { on := 6, ground := Ground.phase }, { on := 7, ground := Ground.phase }, { on := 8, ground := Ground.phase }, { on := 9, ground := Ground.phase }, { on := 10, ground := Ground.phase }], guard := none }) (v := ?_) rfl (by kernel_rfl) (by kernel_rfl) (by kernel_rfl) (fun _ _ _ h => h) (Or.inl ⟨by rfl, ?_⟩) ?_
                  rotate_left 1
                  · intro W
                    go_simp
                    try with_reducible rfl
                    skip
                  try simp only [Act.put, List.setIfInBounds_toArray, List.set_cons_zero, List.set_cons_succ]
                  refine wpAny_ready (rs := [13]) (by kernel_rfl) (by simp) ?_
                  refine AllReady.cons (o := { dst := none, op := Op.store 71 (Operand.tmp 100) (Operand.tmp 98), type := 0, pos := "ref.go:96", after := #[{ on := 12, ground := Ground.data }, { on := 10, ground := Ground.data }, { on := 10, ground := Ground.chain }, { on := 0, ground := Ground.phase }, { on := 1, ground := Ground.phase }, { on := 2, ground := Ground.phase }, { on := 3, ground := Ground.phase }, { on := 4, ground := Ground.phase }, { on := 5, ground := Ground.phase }, { on := 6, ground := Ground.phase }, { on := 7, ground := Ground.phase }, { on := 8, ground := Ground.phase }, { on := 9, ground := Ground.phase }, { on := 10, ground := Ground.phase }], guard := none }) rfl (fun K hK => ?_) ?_
                  · go_simp
                    refine hK _ _ ?_
                    try clear hK K
                    try simp only [Act.put, List.setIfInBounds_toArray, List.set_cons_zero, List.set_cons_succ]
                    refine wpAny_done (by kernel_rfl) ?_ _
                    go_wp2
                    go_ret
                    obtain ⟨hA, hB⟩ := rput_end HL.out HVc.out HT.out HOk.out HO3.out HG3.out HA3.out HD3.out
                    rw [HP.out]; exact ⟨rfl, hA, hB⟩
                  exact AllReady.nil
                exact AllReady.nil
              exact AllReady.nil
            refine AllReady.cons (o := { dst := some 97, op := Op.buildSlice 71 1 #[(0, Operand.tmp 96)], type := 71, pos := "ref.go:96", after := #[{ on := 8, ground := Ground.data }], guard := none }) rfl (fun K hK => ?_) ?_
            · go_simp
              refine hK _ _ ?_
              try clear hK K
              try simp only [Act.put, List.setIfInBounds_toArray, List.set_cons_zero, List.set_cons_succ]
              refine wpAny_ready (rs := [4]) (by kernel_rfl) (by simp) ?_
              refine AllReady.cons (o := { dst := some 92, op := Op.load 71 (Operand.tmp 91), type := 71, pos := "ref.go:96", after := #[{ on := 3, ground := Ground.data }], guard := none }) rfl (fun K hK => ?_) ?_
              · go_simp
                refine hK _ _ ?_
                try clear hK K
                try simp only [Act.put, List.setIfInBounds_toArray, List.set_cons_zero, List.set_cons_succ]
                refine wpAny_ready (rs := [10]) (by kernel_rfl) (by simp) ?_
                refine AllReady.cons (o := { dst := some 98, op := Op.call { callee := Callee.builtin Builtin.append, args := #[Operand.tmp 92, Operand.tmp 97], argTypes := #[71, 71] }, type := 71, pos := "ref.go:96", after := #[{ on := 4, ground := Ground.data }, { on := 9, ground := Ground.data }], guard := none }) rfl (fun K hK => ?_) ?_
                · obtain ⟨i0, z0, hi0, hz0, hs0, hb0, hzs0⟩ := slot_parts infoSlot
                  refine step_append_own_at rfl (.tmp 92) (.tmp 97) 71 rfl 0 112 i0 z0 2 24 Tryd.underlying71 hi0 hz0 hs0 hb0 hzs0 (by decide) _ M.cache.length (slots M.cache) rfl HCd.out ⟨W1.heap.size, 0, none⟩ 1 1 [.int .i64 (k : Nat), .string (strN x)] rfl rfl HNw.out (by intro v hv; simp at hv; rcases hv with rfl | rfl <;> rfl) (by simp [maxLen]; omega) (by omega) (Nat.zero_le _) ?_
                  intro v3 w3 ho3 hg3 _ hat3
                  obtain ⟨g3, cap3, rfl⟩ := row_form ho3 (by omega)
                  have hd3 : w3.heap[d]? = some (.cells (rCells M vd (.slice ac M.cache.length cc) pk) 73 (0, 0)) := (hg3.block d (by simp; omega) (fun e => own_ne_box HL.out.cache HL.out.box (by decide) (by rw [HVc.out]; exact e.symm))).trans HDd.out
                  have c2' : w3.cell? ⟨d, 2, none⟩ = some (.slice ac M.cache.length cc) := by simp [World.cell?, hd3, rCells]
                  have f2' : w3.frozen? ⟨d, 2, none⟩ = false := by simp [World.frozen?, hd3]
                  have HO3 := Lib.hid ho3; have HG3 := Lib.hid hg3; have HA3 := Lib.hid hat3; have HD3 := Lib.hid hd3
                  clear ho3 hg3 hat3 hd3 hi0 hz0 hs0 hb0 hzs0
                  refine hK _ _ ?_
                  try clear hK K
                  try simp only [Act.put, List.setIfInBounds_toArray, List.set_cons_zero, List.set_cons_succ]
                  refine wpAny_take (i := 11) (oi := { dst := some 99, op := Op.nilCheck (Operand.tmp 88), type := 0, pos := "ref.go:96", after := #[{ on := 0, ground := Ground.data }, { on := 0, ground := Ground.phase }, { on := 1, ground := Ground.phase }, { on := 2, ground := Ground.phase }, { on := 3, ground := Ground.phase }, { on := 4, ground := Ground.phase }, { on := 5, ground := Ground.phase }, { on := 6, ground := Ground.phase }, { on := 7, ground := Ground.phase }, { on := 8, ground := Ground.phase }, { on := 9, ground := Ground.phase }, { on := 10, ground := Ground.phase }], guard := none }) (v := ?_) rfl (by kernel_rfl) (by kernel_rfl) (by kernel_rfl) (fun _ _ _ h => h) (Or.inl ⟨by rfl, ?_⟩) ?_
                  rotate_left 1
                  · intro W
                    go_simp
                    try with_reducible rfl
                    skip
                  try simp only [Act.put, List.setIfInBounds_toArray, List.set_cons_zero, List.set_cons_succ]
                  refine wpAny_take (i := 12) (oi := { dst := some 100, op := Op.fieldAddr 73 (Operand.tmp 99) 2, type := 0, pos := "ref.go:96", after := #[{ on := 11, ground := Ground.data }, { on := 0, ground := Ground.phase }, { on := 1, ground := Ground.phase }, { on := 2, ground := Ground.phase }, { on := 3, ground := Ground.phase }, { on := 4, ground := Ground.phase }, { on := 5, ground := Ground.phase }, { on := 6, ground := Ground.phase }, { on := 7, ground := Ground.phase }, { on := 8, ground := Ground.phase }, { on := 9, ground := Ground.phase }, { on := 10, ground := Ground.phase }], guard := none }) (v := ?_) rfl (by kernel_rfl) (by kernel_rfl) (by kernel_rfl) (fun _ _ _ h => h) (Or.inl ⟨by rfl, ?_⟩) ?_
                  rotate_left 1
                  · intro W
                    go_simp
                    try with_reducible rfl
                    skip
                  try simp only [Act.put, List.setIfInBounds_toArray, List.set_cons_zero, List.set_cons_succ]
                  refine wpAny_ready (rs := [13]) (by kernel_rfl) (by simp) ?_
                  refine AllReady.cons (o := { dst := none, op := Op.store 71 (Operand.tmp 100) (Operand.tmp 98), type := 0, pos := "ref.go:96", after := #[{ on := 12, ground := Ground.data }, { on := 10, ground := Ground.data }, { on := 10, ground := Ground.chain }, { on := 0, ground := Ground.phase }, { on := 1, ground := Ground.phase }, { on := 2, ground := Ground.phase }, { on := 3, ground := Ground.phase }, { on := 4, ground := Ground.phase }, { on := 5, ground := Ground.phase }, { on := 6, ground := Ground.phase }, { on := 7, ground := Ground.phase }, { on := 8, ground := Ground.phase }, { on := 9, ground := Ground.phase }, { on := 10, ground := Ground.phase }], guard := none }) rfl (fun K hK => ?_) ?_
                  · go_simp
                    refine hK _ _ ?_
                    try clear hK K
                    try simp only [Act.put, List.setIfInBounds_toArray, List.set_cons_zero, List.set_cons_succ]
                    refine wpAny_done (by kernel_rfl) ?_ _
                    go_wp2
                    go_ret
                    obtain ⟨hA, hB⟩ := rput_end HL.out HVc.out HT.out HOk.out HO3.out HG3.out HA3.out HD3.out
                    rw [HP.out]; exact ⟨rfl, hA, hB⟩
                  exact AllReady.nil
                exact AllReady.nil
              exact AllReady.nil
            exact AllReady.nil
          exact AllReady.nil

end Go.Proofs.YtkhghkklekjdaaaDoor.sector
