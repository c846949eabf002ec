/- The law SectorWall: what was flushed is there, whatever is lost later; each sector has that, or what was written to it last: for all writes and every pick the law returns true and leaves its arguments as they were. Conditions: none. -/
import Derived.Test.YtmipjhbbbpcdlaaRows
import Derived.Test.YtmipjhbbbpcdlaaSectorWallM
namespace Go.Proofs.Ytmipjhbbbpcdlaa.sector
open Go.ChangeShapes Go.WideShapes Go.ChangeAt Go.RowKit
open Go.Proofs.Ytmipjhbbbpcdlaa.kit Go.Proofs.Ytmipjhbbbpcdlaa.own Go.Proofs.Ytmipjhbbbpcdlaa.lift
set_option linter.unusedVariables false

theorem wall_conv (z : Int) : ∃ n : Nat, 1 ≤ n ∧ n ≤ 32 ∧ wrap64 (1 + wrap64 ((IntKind.u64.wrap z).tmod 32)) = (n : Int) := by
  have h0 : 0 ≤ IntKind.u64.wrap z := by rw [IntKind.wrap_u64]; omega
  rw [Int.tmod_eq_emod_of_nonneg h0]
  generalize IntKind.u64.wrap z = u at h0
  have h1 : 0 ≤ u % 32 := by omega
  have h2 : u % 32 < 32 := by omega
  generalize u % 32 = q at h1 h2
  refine ⟨(q + 1).toNat, by omega, by omega, ?_⟩
  unfold wrap64
  omega

/-- The device behind so many writes ahead of the flush. -/
def AheadAt (w0 w : World) (d n k : Nat) : Prop := ∃ Z m, DevAt w Z d m ∧ (∀ q, Z q → w0.heap.size ≤ q) ∧ Below w0.heap.size w0 w ∧ m.n = n ∧ m.power = true ∧ m.cut = none ∧ m.ws = k ∧ m.fs = 0

theorem tmod_nat (k n : Nat) : (k : Int).tmod n = ((k % n : Nat) : Int) := by
  rw [Int.tmod_eq_emod_of_nonneg (by omega)]
  exact (Int.natCast_emod k n).symm
theorem tmod7 (k n : Nat) : ((k : Int) * 7).tmod n = ((k * 7 % n : Nat) : Int) := by
  have := tmod_nat (k * 7) n
  rw [← this]
  push_cast
  rfl
theorem _root_.Go.RowKit.Below.drew' {B : Nat} {a w : World} (h : Below B a w) : Below B a w.drew := ⟨h.os, h.tape, h.output, h.size, h.block⟩
theorem ahead_step {w0 wr w3 w4 : World} {Z : Nat → Prop} {d n k q : Nat} {m : Dev} {x : List Nat} (hd : DevAt wr Z d m) (hz : ∀ q, Z q → w0.heap.size ≤ q) (hb : Below w0.heap.size w0 wr) (hn : m.n = n) (hp : m.power = true) (hc : m.cut = none) (hw : m.ws = k) (hf : m.fs = 0)
    (hb3 : Below wr.drew.heap.size wr.drew w3) (hd4 : DevAt w4 (More Z w3 w4) d (wrote m q x)) (ht4 : Turn Z w3 w4) : AheadAt w0 w4 d n (k + 1) := by
  obtain ⟨h1, h2, h3, h4, h5, _⟩ := wrote_same m q x
  have hb3' : Below w0.heap.size w0 w3 := hb.trans ((show Below wr.heap.size wr w3 from ⟨hb3.os, hb3.tape, hb3.output, hb3.size, hb3.block⟩).mono hb.size)
  exact ⟨_, _, hd4, more_ge hz hb3'.size, Turn.below hb3' ht4 hb3'.size hz, h2.trans hn, h1.trans hp, by rw [h3, hc]; rfl, by rw [h4, hw], h5.trans hf⟩

theorem infoStr : (Try.prog.info? 9).map (fun i => (i.zero, i.size, i.bytes)) = some (some (.string ByteArray.empty), 1, 16) := by kernel_rfl
theorem made_texts (w : World) (n : Nat) (hn : n ≤ 32) : ∃ w1, (Instr.makeSlice 45 (.int .i64 (n : Nat)) (.int .i64 (n : Nat))).run Try.prog w = .ok (.slice (some ⟨w.heap.size, 0, none⟩) n n) w1 ∧
    w1.ownsRow 0 9 1 (.slice (some ⟨w.heap.size, 0, none⟩) n n) n ((List.replicate n ByteArray.empty).map Value.string) ∧ Below w.heap.size w w1 := by
  obtain ⟨i0, hi, hz0, hz1, hz2⟩ := info_parts infoStr
  obtain ⟨w1, h1, h2, h3⟩ := run_makeSlice_full (P := Try.prog) w 0 45 9 i0 (.string ByteArray.empty) 1 Try.underlying45 hi hz0 hz1 .i64 .i64 n (by omega) (by rw [hz2]; omega) (by unfold maxLen; omega) (Nat.zero_le _)
  have e : (Value.string ByteArray.empty).cells = #[.string ByteArray.empty] := rfl
  rw [e, toList_madeCells_one, Nat.mul_one] at h2
  refine ⟨w1, h1, ?_, ⟨h3.os, h3.tape, h3.output, h3.size, fun k hk => h3.block k hk (by simp)⟩⟩
  rw [List.map_replicate]
  exact h2
theorem _root_.Go.Proofs.Ytmipjhbbbpcdlaa.kit.OwnI.base' {w : World} {B B' e : Nat} {k : IntKind} {v : Value} {ns : List Nat} (h : OwnI w B e k v ns) (hB : B' ≤ B) : OwnI w B' e k v ns := by
  obtain ⟨h1, h2⟩ := id h
  refine ⟨h1, ?_⟩
  rcases h2 with ⟨rfl, h0⟩ | ⟨g, cap, cur, rfl, hB2, hr⟩
  · exact .inl ⟨rfl, h0⟩
  · exact .inr ⟨g, cap, cur, rfl, Nat.le_trans hB hB2, hr⟩

/-- Behind the flush: the device, and the image that was told. -/
def LaterMid (w0 w : World) (d gw n cw : Nat) (L1 : List Nat) (k : Nat) : Prop :=
  ∃ Z m, DevAt w Z d m ∧ (∀ q, Z q → w0.heap.size ≤ q) ∧ Below w0.heap.size w0 w ∧ m.n = n ∧ m.power = true ∧ m.cut = none ∧ m.ws = k ∧ m.laid = L1 ∧ m.cache = [] ∧ ¬ Z gw ∧ OwnI w w0.heap.size 5 .u8 (.slice (some ⟨gw, 0, none⟩) (64 * n) cw) L1
/-- Behind so many later writes: what was written last to each sector. -/
def LaterAt (w0 w : World) (d gw gl n cw : Nat) (L1 : List Nat) (S : List ByteArray) (k : Nat) : Prop :=
  ∃ Z m, DevAt w Z d m ∧ (∀ q, Z q → w0.heap.size ≤ q) ∧ Below w0.heap.size w0 w ∧ m.n = n ∧ m.power = true ∧ m.cut = none ∧ m.ws = k ∧ m.laid = L1 ∧ (∀ p ∈ m.cache, S.getD p.1 ByteArray.empty = strN p.2) ∧
    ¬ Z gw ∧ OwnI w w0.heap.size 5 .u8 (.slice (some ⟨gw, 0, none⟩) (64 * n) cw) L1 ∧
    ¬ Z gl ∧ w0.heap.size ≤ gl ∧ w.ownsRow 0 9 1 (.slice (some ⟨gl, 0, none⟩) n n) n (S.map Value.string)
theorem LaterAt.below {w0 w : World} {d gw gl n cw : Nat} {L1 : List Nat} {S : List ByteArray} {k : Nat} (h : LaterAt w0 w d gw gl n cw L1 S k) : Below w0.heap.size w0 w := by
  obtain ⟨Z, m, _, _, hb, _⟩ := h
  exact hb
theorem LaterMid.begin {w0 w w1 : World} {d gw n cw : Nat} {L1 : List Nat} {k : Nat} (h : LaterMid w0 w d gw n cw L1 k) (ho : w1.ownsRow 0 9 1 (.slice (some ⟨w.heap.size, 0, none⟩) n n) n ((List.replicate n ByteArray.empty).map Value.string)) (hb : Below w.heap.size w w1) :
    LaterAt w0 w1 d gw w.heap.size n cw L1 (List.replicate n ByteArray.empty) k := by
  obtain ⟨Z, m, hd, hz, hb0, hn, hp, hc, hw, hl, hca, hgw, hi⟩ := h
  refine ⟨Z, m, hd.keep hb, hz, hb0.trans (hb.mono hb0.size), hn, hp, hc, hw, hl, (fun p hp => by rw [hca] at hp; cases hp), hgw, hi.below hb, fun h => ?_, hb0.size, ho⟩
  have := hd.lt _ h
  omega

theorem later_row {wr w3 w6 w7 : World} {Z : Nat → Prop} {d n gl : Nat} {m : Dev} {xs : List Value} (hd : DevAt wr Z d m) (hgl : ¬ Z gl) (hrow : wr.ownsRow 0 9 1 (.slice (some ⟨gl, 0, none⟩) n n) n xs)
    (hb3 : Below wr.drew.heap.size wr.drew w3) (ht4 : Turn Z w3 w6) (hb7 : Below w6.drew.heap.size w6.drew w7) : w7.ownsRow 0 9 1 (.slice (some ⟨gl, 0, none⟩) n n) n xs := by
  have hlt := (hrow.lt gl rfl).2
  have h3 : gl < w3.heap.size := Nat.lt_of_lt_of_le hlt hb3.size
  have h6 : gl < w6.heap.size := Nat.lt_of_lt_of_le h3 ht4.size
  refine own_stays hrow (fun g hg => ?_)
  cases hg
  exact (hb7.block gl h6).trans ((ht4.block gl h3 hgl).trans (hb3.block gl hlt))

theorem wr_row {wr w3 w6 w7 : World} {Z : Nat → Prop} {n gl : Nat} {xs : List Value} (hrow : w7.ownsRow 0 9 1 (.slice (some ⟨gl, 0, none⟩) n n) n xs) (hgl : ¬ Z gl) (hlt : gl < wr.heap.size)
    (hb3 : Below wr.drew.heap.size wr.drew w3) (ht4 : Turn Z w3 w6) (hb7 : Below w6.drew.heap.size w6.drew w7) : wr.ownsRow 0 9 1 (.slice (some ⟨gl, 0, none⟩) n n) n xs := by
  have h3 : gl < w3.heap.size := Nat.lt_of_lt_of_le hlt hb3.size
  have h6 : gl < w6.heap.size := Nat.lt_of_lt_of_le h3 ht4.size
  refine own_stays hrow (fun g hg => ?_)
  cases hg
  exact ((hb7.block gl h6).trans ((ht4.block gl h3 hgl).trans (hb3.block gl hlt))).symm
theorem getD_set (S : List ByteArray) (j k : Nat) (s : ByteArray) (hj : j < S.length) : (S.set j s).getD k ByteArray.empty = if k = j then s else S.getD k ByteArray.empty := by
  simp only [List.getD, List.getElem?_set]
  by_cases e : j = k
  · subst e; simp [hj]
  · rw [if_neg e, if_neg (fun h => e h.symm)]
theorem later_step {w0 wr w3 w6 w7 : World} {Z : Nat → Prop} {d gw gl n cw k J : Nat} {m : Dev} {L1 : List Nat} {S : List ByteArray} {nk : List Nat} (hd : DevAt wr Z d m) (hz : ∀ q, Z q → w0.heap.size ≤ q) (hb : Below w0.heap.size w0 wr) (hn : m.n = n) (hp : m.power = true) (hc : m.cut = none) (hw : m.ws = k) (hl : m.laid = L1)
    (hca : ∀ p ∈ m.cache, S.getD p.1 ByteArray.empty = strN p.2) (hgw : ¬ Z gw) (hi : OwnI wr w0.heap.size 5 .u8 (.slice (some ⟨gw, 0, none⟩) (64 * n) cw) L1) (hgl : ¬ Z gl) (hgb : w0.heap.size ≤ gl) (hS : S.length = n) (hJ : J < n)
    (hb3 : Below wr.drew.heap.size wr.drew w3) (hd4 : DevAt w6 (More Z w3 w6) d (wrote m J (fill64 nk))) (ht4 : Turn Z w3 w6) (hb7 : Below w6.drew.heap.size w6.drew w7) (hrow : w7.ownsRow 0 9 1 (.slice (some ⟨gl, 0, none⟩) n n) n (S.map Value.string)) (hlt : gl < wr.heap.size) :
    LaterAt w0 (w7.setCell ⟨gl, J, none⟩ (.string (strN (fill64 nk)))) d gw gl n cw L1 (S.set J (strN (fill64 nk))) (k + 1) := by
  obtain ⟨h1, h2, h3, h4, h5, h6⟩ := wrote_same m J (fill64 nk)
  have hs3 : wr.heap.size ≤ w3.heap.size := hb3.size
  have hs7 : w6.heap.size ≤ w7.heap.size := hb7.size
  have hb3' : Below w0.heap.size w0 w3 := hb.trans ((show Below wr.heap.size wr w3 from ⟨hb3.os, hb3.tape, hb3.output, hb3.size, hb3.block⟩).mono hb.size)
  have hb6 : Below w0.heap.size w0 w6 := Turn.below hb3' ht4 hb3'.size hz
  have hb7' : Below w0.heap.size w0 w7 := hb6.trans ((show Below w6.heap.size w6 w7 from ⟨hb7.os, hb7.tape, hb7.output, hb7.size, hb7.block⟩).mono hb6.size)
  have hgw' := (hi.lt gw rfl).2
  have ngl : ¬ More Z w3 w6 gl := fun h => h.elim hgl (fun h => by omega)
  have ngw : ¬ More Z w3 w6 gw := fun h => h.elim hgw (fun h => by omega)
  have hd7 : DevAt w7 (More Z w3 w6) d (wrote m J (fill64 nk)) := hd4.stays (fun q hq => hb7.block q (hd4.lt q hq)) hs7
  have hd8 : DevAt (w7.setCell ⟨gl, J, none⟩ (.string (strN (fill64 nk)))) (More Z w3 w6) d (wrote m J (fill64 nk)) := hd7.stays (fun q hq => heap_setCell_other w7 _ q _ (fun e => ngl (by rw [← show q = gl from e]; exact hq))) (by simp)
  obtain ⟨r1, r2⟩ := World.ownsRow.stored hrow J (.string (strN (fill64 nk)))
  have hgg : gw ≠ gl := fun e => by
    obtain ⟨c1, q1⟩ := own_type hi (g := gw) rfl
    obtain ⟨c2, q2⟩ := own_type (wr_row hrow hgl hlt hb3 ht4 hb7) (g := gl) rfl
    rw [e, q2] at q1
    simp at q1
  refine ⟨_, _, hd8, more_ge hz hb3'.size, ?_, h2.trans hn, h1.trans hp, by rw [h3, hc]; rfl, by rw [h4, hw], h6.trans hl, ?_, ngw, ?_, ngl, hgb, ?_⟩
  · exact hb7'.setCell (p := ⟨gl, J, none⟩) hgb _
  · intro p hp'
    rw [getD_set S J p.1 _ (by omega)]
    rcases wrote_cache hd.1 J (fill64 nk) p hp' with e | ⟨e1, e2⟩
    · subst e; simp
    · rw [if_neg e2]; exact hca p e1
  · refine own_stays hi (fun g hg => ?_)
    cases hg
    exact (heap_setCell_other w7 _ gw _ hgg).trans ((hb7.block gw (show gw < w6.heap.size by have := ht4.size; omega)).trans ((ht4.block gw (by omega) hgw).trans (hb3.block gw hgw')))
  · rw [List.map_set]
    exact r1

theorem own_slice2 {w : World} {B e : Nat} {k : IntKind} {v : Value} {ns : List Nat} (h : OwnI w B e k v ns) (n : Nat) (hn : ns.length = n) : ∃ a cap, v = .slice a n cap := by
  subst hn
  rcases h.2 with ⟨rfl, h0⟩ | ⟨g, cap, cur, rfl, _⟩
  · exact ⟨none, 0, by rw [h0]⟩
  · exact ⟨_, cap, rfl⟩
theorem own_cap {w : World} {B e n cap size : Nat} {g : Nat} {xs : List Value} (h : w.ownsRow B e size (.slice (some ⟨g, 0, none⟩) n cap) n xs) : n ≤ cap := by
  rcases h.2 with ⟨h', _⟩ | ⟨g', cap', cur, h', _, _, hc, _⟩
  · cases h'
  · cases h'; exact hc
theorem own_cap2 {w : World} {B e n cap : Nat} {g : Nat} {kd : IntKind} {ns : List Nat} (h : OwnI w B e kd (.slice (some ⟨g, 0, none⟩) n cap) ns) (hn : ns.length = n) : n ≤ cap := by
  subst hn; exact own_cap h
/-- Behind the loss, where everything lies. -/
structure FinAt (w0 w : World) (Z : Nat → Prop) (d gw gl gi n cw ci : Nat) (ao : Option Addr) (co : Nat) (L1 : List Nat) (S : List ByteArray) (m : Dev) (pick : Nat) : Prop where
  dev : DevAt w Z d (lost m pick)
  above : ∀ q, Z q → w0.heap.size ≤ q
  below : Below w0.heap.size w0 w
  ok : m.Ok
  nn : m.n = n
  laid : m.laid = L1
  cache : ∀ p ∈ m.cache, S.getD p.1 ByteArray.empty = strN p.2
  was : OwnI w 0 5 .u8 (.slice (some ⟨gw, 0, none⟩) (64 * n) cw) L1
  now : OwnI w 0 5 .u8 (.slice (some ⟨gi, 0, none⟩) (64 * n) ci) (lost m pick).laid
  row : w.ownsRow 0 9 1 (.slice (some ⟨gl, 0, none⟩) n n) n (S.map Value.string)
  order : OwnI w 0 3 .i64 (.slice ao m.cache.length co) (keys m.cache)
theorem fin_at {w0 wr w6 w7 w8 : World} {Z : Nat → Prop} {d gw gl gi n cw ci co pick : Nat} {ao : Option Addr} {m : Dev} {L1 : List Nat} {S : List ByteArray} (hd : DevAt wr Z d m) (hz : ∀ q, Z q → w0.heap.size ≤ q) (hb : Below w0.heap.size w0 wr) (hn : m.n = n) (hl : m.laid = L1)
    (hca : ∀ p ∈ m.cache, S.getD p.1 ByteArray.empty = strN p.2) (hgw : ¬ Z gw) (hi : OwnI wr w0.heap.size 5 .u8 (.slice (some ⟨gw, 0, none⟩) (64 * n) cw) L1) (hgl : ¬ Z gl) (hrow : wr.ownsRow 0 9 1 (.slice (some ⟨gl, 0, none⟩) n n) n (S.map Value.string))
    (ho : OwnI w6 wr.heap.size 3 .i64 (.slice ao m.cache.length co) (keys m.cache)) (hb6 : Below wr.heap.size wr w6) (hd7 : DevAt w7 Z d (lost m pick)) (ht7 : Turn Z w6 w7)
    (hoi : OwnI w8 w7.heap.size 5 .u8 (.slice (some ⟨gi, 0, none⟩) (64 * n) ci) (lost m pick).laid) (hb8 : Below w7.heap.size w7 w8) : FinAt w0 w8 Z d gw gl gi n cw ci ao co L1 S m pick := by
  have s6 := hb6.size; have s7 := ht7.size; have s8 := hb8.size
  have b6 : Below w0.heap.size w0 w6 := hb.trans (hb6.mono hb.size)
  have b7 : Below w0.heap.size w0 w7 := Turn.below b6 ht7 b6.size hz
  have old : ∀ g, g < wr.heap.size → ¬ Z g → w8.heap[g]? = wr.heap[g]? := fun g hg hn => (hb8.block g (by omega)).trans ((ht7.block g (by omega) hn).trans (hb6.block g hg))
  refine ⟨hd7.keep hb8, hz, b7.trans (hb8.mono b7.size), hd.1, hn, hl, hca, ?_, hoi.base' (Nat.zero_le _), ?_, ?_⟩
  · exact OwnI.base' (own_stays hi (fun g hg => by cases hg; exact old gw (hi.lt gw rfl).2 hgw)) (Nat.zero_le _)
  · exact own_stays hrow (fun g hg => by cases hg; exact old gl (hrow.lt gl rfl).2 hgl)
  · refine OwnI.base' (own_stays ho (fun g hg => ?_)) (Nat.zero_le _)
    have h1 := ho.lt g hg
    exact (hb8.block g (by omega)).trans (ht7.block g h1.2 (fun hZ => by have := hd.lt g hZ; omega))

theorem conv_sector {w : World} {g n cap j : Nat} {L : List Nat} (h : OwnI w 0 5 .u8 (.slice (some ⟨g, 0, none⟩) (64 * n) cap) L) (hL : L.length = 64 * n) (hj : j < n) :
    (convert 28 9 (.slice (some ⟨g, j * 64, none⟩) ((j + 1) * 64 - j * 64) (cap - j * 64))).run Try.prog w = .ok (.string (strN (sectorOf L j))) w := by
  have hl := sectorOf_len hL hj
  have h64 : (j + 1) * 64 - j * 64 = (sectorOf L j).length := by rw [hl]; omega
  rw [h64]
  refine conv_sl ⟨by rw [hl]; omega, _, _, rfl, fun _ => ⟨g, j * 64, rfl, fun i hi => ?_⟩⟩
  rw [hl] at hi
  have h1 := SlI.cell h.read (j * 64 + i) (by rw [hL]; omega)
  rw [Nat.zero_add] at h1
  rw [h1]
  simp only [sectorOf, List.getD, List.getElem?_take, hi, if_true, List.getElem?_drop]
theorem text_at {w : World} {g n j : Nat} {S : List ByteArray} (h : w.ownsRow 0 9 1 (.slice (some ⟨g, 0, none⟩) n n) n (S.map Value.string)) (hj : j < n) : w.cell? ⟨g, j, none⟩ = some (.string (S.getD j ByteArray.empty)) := by
  rw [h.cellAt j (by omega)]
  have h7 := h.1
  simp only [List.length_map] at h7
  simp [List.getD, show j < S.length by omega]
theorem FinAt.either {w0 w : World} {Z : Nat → Prop} {d gw gl gi n cw ci : Nat} {ao : Option Addr} {co : Nat} {L1 : List Nat} {S : List ByteArray} {m : Dev} {pick : Nat} (h : FinAt w0 w Z d gw gl gi n cw ci ao co L1 S m pick) {j : Nat} (hj : j < n) (hL : L1.length = 64 * n) :
    strN (sectorOf (lost m pick).laid j) = strN (sectorOf L1 j) ∨ strN (sectorOf (lost m pick).laid j) = S.getD j ByteArray.empty := by
  have hl : (lost m pick).laid = settleF pick 0 m.cache L1 := by rw [← h.laid]; rfl
  rw [hl]
  rcases settleF_or pick n j m.cache 0 L1 (by rw [← h.nn]; exact h.ok.cache) hL with h1 | ⟨q, hq, h1, h2⟩
  · rw [h1]; exact .inl rfl
  · rw [h2, ← h1, h.cache q hq]; exact .inr rfl
theorem FinAt.bit {w0 w : World} {Z : Nat → Prop} {d gw gl gi n cw ci : Nat} {ao : Option Addr} {co : Nat} {L1 : List Nat} {S : List ByteArray} {m : Dev} {pick : Nat} (h : FinAt w0 w Z d gw gl gi n cw ci ao co L1 S m pick) {y : Nat} (hy : y < m.cache.length) (hb : bitAt pick y = 1) :
    strN (sectorOf (lost m pick).laid ((keys m.cache).getD y 0)) = S.getD ((keys m.cache).getD y 0) ByteArray.empty := by
  have hl : (lost m pick).laid = settleF pick 0 m.cache m.laid := rfl
  rw [hl, settleF_bit pick m.n m.cache 0 m.laid h.ok.cache h.ok.laid h.ok.once y hy (by rw [Nat.zero_add]; exact hb)]
  exact (h.cache _ (nth_mem hy)).symm

set_option maxHeartbeats 4000000 in
set_option maxRecDepth 100000 in
theorem walkWall (w : World) (z : Int) (v1 v2 : Value) (n1 n2 : Nat) (V1 V2 : Nat → Value) (N1 N2 : Nat → List Nat) (hv1 : Rws w v1 n1 V1 N1) (hv2 : Rws w v2 n2 V2 N2) (pick : Nat) (hp : pick < 18446744073709551616) :
    Calls Try.prog 5 #[.int .i64 z, v1, v2, .int .u64 pick] w fun e w' => e = .returned (.bool true) ∧ Below w.heap.size w w' := by
  obtain ⟨hn1, a1, cap1, rfl, hc1⟩ := id hv1.shape
  obtain ⟨hn2, a2, cap2, rfl, hc2⟩ := id hv2.shape
  have HV1 := Lib.hid hv1; have HC1 := Lib.hid hc1; have HV2 := Lib.hid hv2; have HC2 := Lib.hid hc2; have HP := Lib.hid hp
  have HW := Lib.hid awake_any
  clear hv1 hc1 hv2 hc2 hp
  obtain ⟨n, hn, hn32, hz⟩ := wall_conv z
  have HZc := Lib.hid hz
  clear hz
  go_enter Try.func5, Try.ntmps5
  go_wp2_with fail
  ((with_reducible refine (New_lit w _ n HZc.out hn (by omega)).mono ?_))
  rintro e w1 ⟨d, rfl, hd1, hb1⟩
  have HS := Lib.hid (Sectors_any w1 _ d _ hd1)
  rw [show (fresh n).n = n from rfl] at HS
  have HA0 := Lib.hid (show AheadAt w w1 d n 0 from ⟨_, _, hd1, (fun k hk => hk.elim False.elim (·.1)), hb1, rfl, rfl, rfl, rfl, rfl⟩)
  clear hd1 hb1 HZc
  go_wp2_with fail
  ((with_reducible refine HS.out.mono ?_))
  rintro e w' ⟨rfl, rfl⟩
  clear HS
  go_wp2_with fail
  go_loopw [36] (fun vi wr => ∃ k : Nat, k ≤ n1 ∧ vi = .int .i64 k ∧ AheadAt w wr d n k) (fun i _ => n1 - (intOf i).toNat)
  case atStart => exact ⟨0, by omega, rfl, HA0.out⟩
  case round =>
    obtain ⟨k, hk, rfl, hs⟩ := hrel
    have HS := Lib.hid hs
    clear hs HA0
    by_cases hkn : k < n1
    · have hkI : (k : Int) < (n1 : Int) := by omega
      have hk0 : (0 : Int) ≤ (k : Int) := by omega
      obtain ⟨Z, m, hd, hz, hb, hmn, hmp, hmc, hmw, hmf⟩ := HS.out
      obtain ⟨b, off, rfl, hcell⟩ := HC1.out (by omega)
      have ck := (hb.cell (p := ⟨b, off + k, none⟩) (cell_lt (hcell k hkn))).trans (hcell k hkn)
      have HBy := Lib.hid ((HV1.out.each k hkn).keep hb)
      generalize V1 k = vk at ck HBy
      generalize N1 k = nk at HBy
      obtain ⟨_, x, cx, rfl, _⟩ := id HBy.out.read
      have HD := Lib.hid hd; have HZ := Lib.hid hz; have HB := Lib.hid hb; have HMn := Lib.hid hmn; have HMp := Lib.hid hmp; have HMc := Lib.hid hmc; have HMw := Lib.hid hmw; have HMf := Lib.hid hmf
      clear hcell hd hz hb hmn hmp hmc hmw hmf HS
      have hmod : k % n < n := Nat.mod_lt _ (by omega)
      have hn0 : (1 : Int) ≤ (n : Int) := by omega
      have HMod := Lib.hid hmod
      have HFi := Lib.hid (filled_any _ nk wr.drew HBy.out.read)
      clear hmod
      have hnz : n ≠ 0 := by omega
      go_upto_region 8 with fail
      refine wp_region_any (by kernel_rfl) ?_
      change wpAny _ _ _ _ _ _ _ (World.drew _)
      refine wpAny_take (i := 0) (oi := { dst := some 41, op := Op.move (Operand.tmp 9), type := 23, pos := "law.go:109", after := #[], guard := none }) (v := ?_) rfl (by kernel_rfl) (by kernel_rfl) (by kernel_rfl) (fun _ _ _ h => h) (Or.inl ⟨by rfl, ?_⟩) ?_
      rotate_left 1
      · intro W
        go_simp
        try with_reducible rfl
      try simp only [Act.put, List.setIfInBounds_toArray, List.set_cons_zero, List.set_cons_succ]
      refine wpAny_take (i := 1) (oi := { dst := some 42, op := Op.move (Operand.tmp 11), type := 3, pos := "law.go:109", after := #[], guard := none }) (v := ?_) rfl (by kernel_rfl) (by kernel_rfl) (by kernel_rfl) (fun _ _ _ h => h) (Or.inl ⟨by rfl, ?_⟩) ?_
      rotate_left 1
      · intro W
        go_simp
        try with_reducible rfl
      try simp only [Act.put, List.setIfInBounds_toArray, List.set_cons_zero, List.set_cons_succ]
      refine wpAny_take (i := 2) (oi := { dst := some 43, op := Op.move (Operand.tmp 10), type := 3, pos := "law.go:109", after := #[], guard := none }) (v := ?_) rfl (by kernel_rfl) (by kernel_rfl) (by kernel_rfl) (fun _ _ _ h => h) (Or.inl ⟨by rfl, ?_⟩) ?_
      rotate_left 1
      · intro W
        go_simp
        try with_reducible rfl
      try simp only [Act.put, List.setIfInBounds_toArray, List.set_cons_zero, List.set_cons_succ]
      refine wpAny_take (i := 3) (oi := { dst := some 44, op := Op.binOp BinOp.rem 3 (Operand.tmp 42) (Operand.tmp 43) 3, type := 3, pos := "law.go:109", after := #[{ on := 1, ground := Ground.data }, { on := 2, ground := Ground.data }], guard := none }) (v := ?_) rfl (by kernel_rfl) (by kernel_rfl) (by kernel_rfl) (fun _ _ _ h => h) (Or.inl ⟨by rfl, ?_⟩) ?_
      rotate_left 1
      · intro W
        go_simp
        try with_reducible rfl
      try simp only [Act.put, List.setIfInBounds_toArray, List.set_cons_zero, List.set_cons_succ]
      refine wpAny_take (i := 4) (oi := { dst := some 45, op := Op.move (Operand.tmp 12), type := 28, pos := "law.go:109", after := #[], guard := none }) (v := ?_) rfl (by kernel_rfl) (by kernel_rfl) (by kernel_rfl) (fun _ _ _ h => h) (Or.inl ⟨by rfl, ?_⟩) ?_
      rotate_left 1
      · intro W
        go_simp
        try with_reducible rfl
      try simp only [Act.put, List.setIfInBounds_toArray, List.set_cons_zero, List.set_cons_succ]
      refine wpAny_ready (rs := [5]) (by kernel_rfl) (by simp) ?_
      refine AllReady.cons (o := { dst := some 46, op := Op.call { callee := Callee.value (Operand.func 18), args := #[Operand.tmp 45], argTypes := #[28] }, type := 28, pos := "law.go:109", after := #[{ on := 4, ground := Ground.data }], guard := none }) rfl (fun K hK => ?_) ?_
      · go_simp
        go_wp2_with (go_at_call 18; refine HFi.out.mono ?_; rintro e w3 ⟨g, rfl, hg3, hs3, hb3⟩; have HG3 := Lib.hid hg3; have HS3 := Lib.hid hs3; have HB3 := Lib.hid hb3; clear hg3 hs3 hb3)
        try clear hK K
        try simp only [Act.put, List.setIfInBounds_toArray, List.set_cons_zero, List.set_cons_succ]
        refine wpAny_ready (rs := [6]) (by kernel_rfl) (by simp) ?_
        refine AllReady.cons (o := { dst := some 47, op := Op.call { callee := Callee.value (Operand.func 17), args := #[Operand.tmp 41, Operand.tmp 44, Operand.tmp 46], argTypes := #[23, 3, 28] }, type := 41, pos := "law.go:109", after := #[{ on := 0, ground := Ground.data }, { on := 3, ground := Ground.data }, { on := 5, ground := Ground.data }, { on := 5, ground := Ground.chain }], guard := none }) rfl (fun K hK => ?_) ?_
        · have HWr := Lib.hid (write_filled wr.drew w3 Z d m HD.out.drew HMp.out (by intro p hh; rw [HMc.out] at hh; cases hh) (k % n) ((k : Int).tmod n) (tmod_nat k n) (by rw [HMn.out]; exact HMod.out) (by rw [HMw.out]; omega) nk HBy.out.lt g HG3.out HS3.out HB3.out)
          go_simp
          go_wp2_with (go_at_call 17; refine HWr.out.mono ?_; rintro e w4 ⟨rfl, hd4, ht4⟩; have HD4 := Lib.hid hd4; have HT4 := Lib.hid ht4; clear hd4 ht4)
          try clear hK K
          try simp only [Act.put, List.setIfInBounds_toArray, List.set_cons_zero, List.set_cons_succ]
          refine wpAny_ready (rs := [7]) (by kernel_rfl) (by simp) ?_
          refine AllReady.cons (o := { dst := some 48, op := Op.binOp BinOp.neq 41 (Operand.tmp 47) (Operand.const (Value.int IntKind.i64 0)) 41, type := 4, pos := "law.go:109", after := #[{ on := 6, ground := Ground.data }], guard := none }) rfl (fun K hK => ?_) ?_
          · go_simp
            refine hK _ _ ?_
            try clear hK K
            try simp only [Act.put, List.setIfInBounds_toArray, List.set_cons_zero, List.set_cons_succ]
            refine wpAny_done (by kernel_rfl) ?_ _
            have HS4 := Lib.hid (ahead_step HD.out HZ.out HB.out HMn.out HMp.out HMc.out HMw.out HMf.out HB3.out HD4.out HT4.out)
            clear HD HZ HB HMn HMp HMc HMw HMf HB3 HD4 HT4 HWr HFi HG3 HS3
            go_wp2
            go_roundw
            case rel => exact ⟨k + 1, by omega, by go_num, HS4.out⟩
            case measure => simp [intOf]; omega
          exact AllReady.nil
        exact AllReady.nil
      exact AllReady.nil
    · obtain rfl : k = n1 := by omega
      obtain ⟨Z, m, hd, hz, hb, hmn, hmp, hmc, hmw, hmf⟩ := HS.out
      have HFl := Lib.hid (Flush_on wr Z d m hd hmp (by rw [hmf]; decide))
      have hkI : ¬ (k : Int) < (k : Int) := by omega
      have HZ := Lib.hid hz; have HB := Lib.hid hb; have HMn := Lib.hid hmn; have HMp := Lib.hid hmp; have HMc := Lib.hid hmc; have HMw := Lib.hid hmw
      clear hd hz hb hmn hmp hmc hmw hmf HS HV1 HC1
      go_wp2_with fail
      ((with_reducible refine HFl.out.mono ?_))
      rintro e w3 ⟨rfl, hd3, ht3⟩
      have HD3 := Lib.hid hd3
      have HB3 := Lib.hid (Turn.below HB.out ht3 HB.out.size HZ.out)
      have HIm := Lib.hid (Image_any w3 Z d _ hd3)
      clear hd3 ht3 HB HFl
      go_wp2_with fail
      ((with_reducible refine HIm.out.mono ?_))
      rintro e w4 ⟨⟨v4, rfl, ho4⟩, hb4⟩
      have hL1 := HD3.out.1.laid
      have hL1n : (flushed m).n = n := HMn.out
      rw [hL1n] at hL1
      obtain ⟨gw, cw, rfl⟩ := own_form ho4 (64 * n) hL1 (by omega)
      have HS0 := Lib.hid (show LaterMid w w4 d gw n cw (flushed m).laid k from
        ⟨Z, flushed m, HD3.out.keep hb4, HZ.out, HB3.out.trans (hb4.mono HB3.out.size), HMn.out, HMp.out, HMc.out, HMw.out, rfl, rfl, fun h => by have := HD3.out.lt _ h; have := (ho4.lt gw rfl).1; omega, (ho4.base' (by have := HB3.out.size; omega))⟩)
      have HL1 := Lib.hid hL1
      obtain ⟨L1, hLe⟩ : ∃ L1, (flushed m).laid = L1 := ⟨_, rfl⟩
      rw [hLe] at HS0 HL1
      clear ho4 hb4 hL1 hL1n HIm HD3 HB3 HZ HMn HMp HMc HMw hLe
      have HMk := Lib.hid (made_texts w4 n hn32)
      go_upto_region 14 with fail
      obtain ⟨w5, hmk, ho5, hb5⟩ := HMk.out
      have HS1 := Lib.hid (show LaterAt w w5 d gw w4.heap.size n cw L1 (List.replicate n ByteArray.empty) k from (HS0.out.begin ho5 hb5))
      clear ho5 hb5 HMk HS0
      generalize w4.heap.size = gl at hmk HS1
      go_wp2_with fail
      go_loopw [59] (fun vi wr => ∃ (q : Nat) (S : List ByteArray), q ≤ n2 ∧ vi = .int .i64 q ∧ LaterAt w wr d gw gl n cw L1 S (k + q)) (fun i _ => n2 - (intOf i).toNat)
      case atStart => exact ⟨0, _, by omega, rfl, HS1.out⟩
      case round =>
        obtain ⟨q, S, hq, rfl, hs⟩ := hrel
        have HS := Lib.hid hs
        clear hs HS1
        by_cases hqn : q < n2
        · have hqI : (q : Int) < (n2 : Int) := by omega
          have hq0 : (0 : Int) ≤ (q : Int) := by omega
          obtain ⟨b, off, rfl, hcell⟩ := HC2.out (by omega)
          have hb : Below w.heap.size w wr := HS.out.below
          have ck := (hb.cell (p := ⟨b, off + q, none⟩) (cell_lt (hcell q hqn))).trans (hcell q hqn)
          have HBy := Lib.hid ((HV2.out.each q hqn).keep hb)
          have HBy0 := Lib.hid (HV2.out.each q hqn)
          generalize V2 q = vk at ck HBy HBy0
          generalize N2 q = nk at HBy HBy0
          obtain ⟨_, x, cx, rfl, _⟩ := id HBy.out.read
          clear hcell hb
          have hnz : n ≠ 0 := by omega
          have hn0 : (1 : Int) ≤ (n : Int) := by omega
          obtain ⟨Z, m, hd, hz, hbl, hmn, hmp, hmc, hmw, hml, hca, hgw, hi, hgl, hgb, hrow⟩ := HS.out
          have HD := Lib.hid hd; have HZ := Lib.hid hz; have HBl := Lib.hid hbl; have HMn := Lib.hid hmn; have HMp := Lib.hid hmp; have HMc := Lib.hid hmc; have HMw := Lib.hid hmw; have HMl := Lib.hid hml
          have HCa := Lib.hid hca; have HGw := Lib.hid hgw; have HI := Lib.hid hi; have HGl := Lib.hid hgl; have HGb := Lib.hid hgb; have HRow := Lib.hid hrow
          clear hd hz hbl hmn hmp hmc hmw hml hca hgw hi hgl hgb hrow HS
          obtain ⟨J, hJ, hJn⟩ : ∃ J, ((q : Int) * 7).tmod n = ((J : Nat) : Int) ∧ J < n := ⟨q * 7 % n, tmod7 q n, Nat.mod_lt _ (by omega)⟩
          have HMod := Lib.hid hJn
          have e8 : True → ((q : Int) * 7).tmod n = (J : Int) := fun _ => hJ
          have hJI : (J : Int) < (n : Int) := by omega
          have hJ0 : (0 : Int) ≤ (J : Int) := by omega
          clear hJ hJn
          have HFi := Lib.hid (filled_any _ nk wr.drew HBy.out.read)
          have e7 : True → IntKind.i64.wrap ((q : Int) * 7) = (q : Int) * 7 := fun _ => by simp [IntKind.wrap, IntKind.bits, IntKind.signed]; omega
          go_upto_region 18 with fail
          refine wp_region_any (by kernel_rfl) ?_
          change wpAny _ _ _ _ _ _ _ (World.drew _)
          refine wpAny_take (i := 0) (oi := { dst := some 64, op := Op.move (Operand.tmp 9), type := 23, pos := "law.go:119", after := #[], guard := none }) (v := ?_) rfl (by kernel_rfl) (by kernel_rfl) (by kernel_rfl) (fun _ _ _ h => h) (Or.inl ⟨by rfl, ?_⟩) ?_
          rotate_left 1
          · intro W
            go_simp
            try with_reducible rfl
          try simp only [Act.put, List.setIfInBounds_toArray, List.set_cons_zero, List.set_cons_succ]
          refine wpAny_take (i := 1) (oi := { dst := some 65, op := Op.move (Operand.tmp 15), type := 3, pos := "law.go:119", after := #[], guard := none }) (v := ?_) rfl (by kernel_rfl) (by kernel_rfl) (by kernel_rfl) (fun _ _ _ h => h) (Or.inl ⟨by rfl, ?_⟩) ?_
          rotate_left 1
          · intro W
            go_simp
            try with_reducible rfl
          try simp only [Act.put, List.setIfInBounds_toArray, List.set_cons_zero, List.set_cons_succ]
          refine wpAny_take (i := 2) (oi := { dst := some 66, op := Op.binOp BinOp.mul 3 (Operand.tmp 65) (Operand.const (Value.int IntKind.i64 7)) 3, type := 3, pos := "law.go:119", after := #[{ on := 1, ground := Ground.data }], guard := none }) (v := ?_) rfl (by kernel_rfl) (by kernel_rfl) (by kernel_rfl) (fun _ _ _ h => h) (Or.inl ⟨by rfl, ?_⟩) ?_
          rotate_left 1
          · intro W
            go_simp
            try with_reducible rfl
          try simp only [Act.put, List.setIfInBounds_toArray, List.set_cons_zero, List.set_cons_succ]
          refine wpAny_take (i := 3) (oi := { dst := some 67, op := Op.move (Operand.tmp 10), type := 3, pos := "law.go:119", after := #[], guard := none }) (v := ?_) rfl (by kernel_rfl) (by kernel_rfl) (by kernel_rfl) (fun _ _ _ h => h) (Or.inl ⟨by rfl, ?_⟩) ?_
          rotate_left 1
          · intro W
            go_simp
            try with_reducible rfl
          try simp only [Act.put, List.setIfInBounds_toArray, List.set_cons_zero, List.set_cons_succ]
          refine wpAny_take (i := 4) (oi := { dst := some 68, op := Op.binOp BinOp.rem 3 (Operand.tmp 66) (Operand.tmp 67) 3, type := 3, pos := "law.go:119", after := #[{ on := 2, ground := Ground.data }, { on := 3, ground := Ground.data }], guard := none }) (v := ?_) rfl (by kernel_rfl) (by kernel_rfl) (by kernel_rfl) (fun _ _ _ h => h) (Or.inl ⟨by rfl, ?_⟩) ?_
          rotate_left 1
          · intro W
            go_simp
            try with_reducible rfl
          try simp only [Act.put, List.setIfInBounds_toArray, List.set_cons_zero, List.set_cons_succ]
          refine wpAny_take (i := 5) (oi := { dst := some 69, op := Op.move (Operand.tmp 16), type := 28, pos := "law.go:119", after := #[], guard := none }) (v := ?_) rfl (by kernel_rfl) (by kernel_rfl) (by kernel_rfl) (fun _ _ _ h => h) (Or.inl ⟨by rfl, ?_⟩) ?_
          rotate_left 1
          · intro W
            go_simp
            try with_reducible rfl
          try simp only [Act.put, List.setIfInBounds_toArray, List.set_cons_zero, List.set_cons_succ]
          refine wpAny_ready (rs := [6]) (by kernel_rfl) (by simp) ?_
          refine AllReady.cons (o := { dst := some 70, op := Op.call { callee := Callee.value (Operand.func 18), args := #[Operand.tmp 69], argTypes := #[28] }, type := 28, pos := "law.go:119", after := #[{ on := 5, ground := Ground.data }], guard := none }) rfl (fun K hK => ?_) ?_
          · go_simp
            go_wp2_with (go_at_call 18; refine HFi.out.mono ?_; rintro e w3 ⟨g, rfl, hg3, hs3, hb3⟩; have HG3 := Lib.hid hg3; have HS3 := Lib.hid hs3; have HB3 := Lib.hid hb3; clear hg3 hs3 hb3)
            try clear hK K
            try simp only [Act.put, List.setIfInBounds_toArray, List.set_cons_zero, List.set_cons_succ]
            refine wpAny_ready (rs := [7]) (by kernel_rfl) (by simp) ?_
            refine AllReady.cons (o := { dst := some 71, op := Op.call { callee := Callee.value (Operand.func 17), args := #[Operand.tmp 64, Operand.tmp 68, Operand.tmp 70], argTypes := #[23, 3, 28] }, type := 41, pos := "law.go:119", after := #[{ on := 0, ground := Ground.data }, { on := 4, ground := Ground.data }, { on := 6, ground := Ground.data }, { on := 6, ground := Ground.chain }], guard := none }) rfl (fun K hK => ?_) ?_
            · have HWr := Lib.hid (write_filled wr.drew w3 Z d m HD.out.drew HMp.out (by intro p hh; rw [HMc.out] at hh; cases hh) J (J : Int) rfl (by rw [HMn.out]; exact HMod.out) (by rw [HMw.out]; omega) nk HBy.out.lt g HG3.out HS3.out HB3.out)
              go_simp
              go_wp2_with (go_at_call 17; refine HWr.out.mono ?_; rintro e w6 ⟨rfl, hd4, ht4⟩; have HD4 := Lib.hid hd4; have HT4 := Lib.hid ht4; clear hd4 ht4)
              try clear hK K
              try simp only [Act.put, List.setIfInBounds_toArray, List.set_cons_zero, List.set_cons_succ]
              refine wpAny_ready (rs := [8]) (by kernel_rfl) (by simp) ?_
              refine AllReady.cons (o := { dst := some 72, op := Op.binOp BinOp.neq 41 (Operand.tmp 71) (Operand.const (Value.int IntKind.i64 0)) 41, type := 4, pos := "law.go:119", after := #[{ on := 7, ground := Ground.data }], guard := none }) rfl (fun K hK => ?_) ?_
              · go_simp
                refine hK _ _ ?_
                try clear hK K
                try simp only [Act.put, List.setIfInBounds_toArray, List.set_cons_zero, List.set_cons_succ]
                refine wpAny_done (by kernel_rfl) ?_ _
                have HW6 := Lib.hid (Turn.below (HBl.out.trans ((show Below wr.heap.size wr w3 from ⟨HB3.out.os, HB3.out.tape, HB3.out.output, HB3.out.size, HB3.out.block⟩).mono HBl.out.size)) HT4.out (by have h1 := HBl.out.size; have h2 := HB3.out.size; exact Nat.le_trans h1 h2) HZ.out)
                have HFi6 := Lib.hid (filled_any _ nk w6.drew (HBy0.out.keep (HW6.out.drew')).read)
                go_upto_region 20 with fail
                refine wp_region_any (by kernel_rfl) ?_
                change wpAny _ _ _ _ _ _ _ (World.drew _)
                refine wpAny_take (i := 0) (oi := { dst := some 73, op := Op.move (Operand.tmp 14), type := 45, pos := "law.go:122", after := #[], guard := none }) (v := ?_) rfl (by kernel_rfl) (by kernel_rfl) (by kernel_rfl) (fun _ _ _ h => h) (Or.inl ⟨by rfl, ?_⟩) ?_
                rotate_left 1
                · intro W
                  go_simp
                  try with_reducible rfl
                try simp only [Act.put, List.setIfInBounds_toArray, List.set_cons_zero, List.set_cons_succ]
                refine wpAny_take (i := 1) (oi := { dst := some 74, op := Op.move (Operand.tmp 15), type := 3, pos := "law.go:122", after := #[], guard := none }) (v := ?_) rfl (by kernel_rfl) (by kernel_rfl) (by kernel_rfl) (fun _ _ _ h => h) (Or.inl ⟨by rfl, ?_⟩) ?_
                rotate_left 1
                · intro W
                  go_simp
                  try with_reducible rfl
                try simp only [Act.put, List.setIfInBounds_toArray, List.set_cons_zero, List.set_cons_succ]
                refine wpAny_take (i := 2) (oi := { dst := some 75, op := Op.binOp BinOp.mul 3 (Operand.tmp 74) (Operand.const (Value.int IntKind.i64 7)) 3, type := 3, pos := "law.go:122", after := #[{ on := 1, ground := Ground.data }], guard := none }) (v := ?_) rfl (by kernel_rfl) (by kernel_rfl) (by kernel_rfl) (fun _ _ _ h => h) (Or.inl ⟨by rfl, ?_⟩) ?_
                rotate_left 1
                · intro W
                  go_simp
                  try with_reducible rfl
                try simp only [Act.put, List.setIfInBounds_toArray, List.set_cons_zero, List.set_cons_succ]
                refine wpAny_take (i := 3) (oi := { dst := some 76, op := Op.move (Operand.tmp 10), type := 3, pos := "law.go:122", after := #[], guard := none }) (v := ?_) rfl (by kernel_rfl) (by kernel_rfl) (by kernel_rfl) (fun _ _ _ h => h) (Or.inl ⟨by rfl, ?_⟩) ?_
                rotate_left 1
                · intro W
                  go_simp
                  try with_reducible rfl
                try simp only [Act.put, List.setIfInBounds_toArray, List.set_cons_zero, List.set_cons_succ]
                refine wpAny_take (i := 4) (oi := { dst := some 77, op := Op.binOp BinOp.rem 3 (Operand.tmp 75) (Operand.tmp 76) 3, type := 3, pos := "law.go:122", after := #[{ on := 2, ground := Ground.data }, { on := 3, ground := Ground.data }], guard := none }) (v := ?_) rfl (by kernel_rfl) (by kernel_rfl) (by kernel_rfl) (fun _ _ _ h => h) (Or.inl ⟨by rfl, ?_⟩) ?_
                rotate_left 1
                · intro W
                  go_simp
                  try with_reducible rfl
                try simp only [Act.put, List.setIfInBounds_toArray, List.set_cons_zero, List.set_cons_succ]
                refine wpAny_take (i := 5) (oi := { dst := some 78, op := Op.move (Operand.tmp 16), type := 28, pos := "law.go:122", after := #[], guard := none }) (v := ?_) rfl (by kernel_rfl) (by kernel_rfl) (by kernel_rfl) (fun _ _ _ h => h) (Or.inl ⟨by rfl, ?_⟩) ?_
                rotate_left 1
                · intro W
                  go_simp
                  try with_reducible rfl
                try simp only [Act.put, List.setIfInBounds_toArray, List.set_cons_zero, List.set_cons_succ]
                refine wpAny_ready (rs := [6]) (by kernel_rfl) (by simp) ?_
                refine AllReady.cons (o := { dst := some 79, op := Op.call { callee := Callee.value (Operand.func 18), args := #[Operand.tmp 78], argTypes := #[28] }, type := 28, pos := "law.go:122", after := #[{ on := 5, ground := Ground.data }], guard := none }) rfl (fun K hK => ?_) ?_
                · go_simp
                  go_wp2_with (go_at_call 18; refine HFi6.out.mono ?_; rintro e w7 ⟨g7, rfl, hg7, hs7, hb7⟩; have HG7 := Lib.hid hg7; have HS7 := Lib.hid hs7; have HB7 := Lib.hid hb7; have hcv := conv_sl (sl_of_range (cap := 64) (range_of_block (cs := bv (fill64 nk)) hg7) (by rw [fill64_len]; omega)); rw [fill64_len] at hcv; clear hg7 hs7 hb7)
                  try clear hK K
                  try simp only [Act.put, List.setIfInBounds_toArray, List.set_cons_zero, List.set_cons_succ]
                  refine wpAny_ready (rs := [7]) (by kernel_rfl) (by simp) ?_
                  refine AllReady.cons (o := { dst := some 80, op := Op.convert 28 9 (Operand.tmp 79), type := 9, pos := "law.go:122", after := #[{ on := 6, ground := Ground.data }], guard := none }) rfl (fun K hK => ?_) ?_
                  · go_simp
                    refine hK _ _ ?_
                    try clear hK K
                    try simp only [Act.put, List.setIfInBounds_toArray, List.set_cons_zero, List.set_cons_succ]
                    refine wpAny_ready (rs := [8]) (by kernel_rfl) (by simp) ?_
                    refine AllReady.cons (o := { dst := some 81, op := Op.indexAddr 45 (Operand.tmp 73) (Operand.tmp 77), type := 0, pos := "law.go:122", after := #[{ on := 0, ground := Ground.data }, { on := 4, ground := Ground.data }, { on := 0, ground := Ground.phase }, { on := 1, ground := Ground.phase }, { on := 2, ground := Ground.phase }, { on := 3, ground := Ground.phase }, { on := 4, ground := Ground.phase }, { on := 5, ground := Ground.phase }, { on := 6, ground := Ground.phase }, { on := 7, ground := Ground.phase }], guard := none }) rfl (fun K hK => ?_) ?_
                    · go_simp
                      refine hK _ _ ?_
                      try clear hK K
                      try simp only [Act.put, List.setIfInBounds_toArray, List.set_cons_zero, List.set_cons_succ]
                      refine wpAny_ready (rs := [9]) (by kernel_rfl) (by simp) ?_
                      refine AllReady.cons (o := { dst := none, op := Op.store 9 (Operand.tmp 81) (Operand.tmp 80), type := 0, pos := "law.go:122", after := #[{ on := 8, ground := Ground.data }, { on := 7, ground := Ground.data }, { on := 6, ground := Ground.chain }, { on := 0, ground := Ground.phase }, { on := 1, ground := Ground.phase }, { on := 2, ground := Ground.phase }, { on := 3, ground := Ground.phase }, { on := 4, ground := Ground.phase }, { on := 5, ground := Ground.phase }, { on := 6, ground := Ground.phase }, { on := 7, ground := Ground.phase }], guard := none }) rfl (fun K hK => ?_) ?_
                      · have hrow7 := later_row HD.out HGl.out HRow.out HB3.out HT4.out HB7.out
                        have f9 := hrow7.frozenAt J
                        have c9 : w7.cell? ⟨gl, J, none⟩ = some (.string (S.getD J ByteArray.empty)) := by rw [hrow7.cellAt J (by have := HMod.out; omega)]; have h7 := hrow7.1; simp only [List.length_map] at h7; simp [List.getD, show J < S.length by have := HMod.out; omega]
                        have HR7 := Lib.hid hrow7
                        clear hrow7
                        go_simp
                        refine hK _ _ ?_
                        try clear hK K
                        try simp only [Act.put, List.setIfInBounds_toArray, List.set_cons_zero, List.set_cons_succ]
                        refine wpAny_done (by kernel_rfl) ?_ _
                        have HS9 := Lib.hid (later_step HD.out HZ.out HBl.out HMn.out HMp.out HMc.out HMw.out HMl.out HCa.out HGw.out HI.out HGl.out HGb.out (by have := HRow.out.1; simpa using this) HMod.out HB3.out HD4.out HT4.out HB7.out HR7.out (HRow.out.lt gl rfl).2)
                        clear HD HZ HBl HMn HMp HMc HMw HMl HCa HGw HI HGl HGb HRow HB3 HD4 HT4 HB7 HR7 HFi HFi6 HWr c9 f9 hcv e7 e8 ck
                        go_wp2
                        go_roundw
                        case rel => exact ⟨q + 1, _, by omega, by go_num, HS9.out⟩
                        case measure => simp [intOf]; omega
                      exact AllReady.nil
                    exact AllReady.nil
                  exact AllReady.nil
                exact AllReady.nil
              exact AllReady.nil
            exact AllReady.nil
          exact AllReady.nil
        · obtain rfl : q = n2 := by omega
          obtain ⟨Z, m, hd, hz, hbl, hmn, hmp, hmc, hmw, hml, hca, hgw, hi, hgl, hgb, hrow⟩ := HS.out
          have HD := Lib.hid hd; have HZ := Lib.hid hz; have HBl := Lib.hid hbl; have HMn := Lib.hid hmn; have HMp := Lib.hid hmp; have HMl := Lib.hid hml
          have HCa := Lib.hid hca; have HGw := Lib.hid hgw; have HI := Lib.hid hi; have HGl := Lib.hid hgl; have HRow := Lib.hid hrow
          have hqI : ¬ (q : Int) < (q : Int) := by omega
          clear hd hz hbl hmn hmp hmc hmw hml hca hgw hi hgl hgb hrow HS HV2 HC2
          go_wp2_with fail
          ((with_reducible refine (Dirty_any wr Z d m HD.out).mono ?_))
          rintro e w6 ⟨⟨vo, rfl, ho⟩, hb6⟩
          obtain ⟨ao, co, rfl⟩ := own_slice2 ho m.cache.length (by rw [keys_len])
          have HO := Lib.hid ho; have HB6 := Lib.hid hb6
          clear ho hb6
          go_wp2_with fail
          ((with_reducible refine (Lose_on w6 Z d m (HD.out.keep HB6.out) HMp.out pick HP.out pick rfl).mono ?_))
          rintro e w7 ⟨rfl, hd7, ht7⟩
          have HD7 := Lib.hid hd7; have HT7 := Lib.hid ht7
          clear hd7 ht7
          go_wp2_with fail
          ((with_reducible refine (Image_any w7 Z d (lost m pick) HD7.out).mono ?_))
          rintro e w8 ⟨⟨vi, rfl, hoi⟩, hb8⟩
          have hL2 := HD7.out.1.laid
          rw [show (lost m pick).n = m.n from rfl, HMn.out] at hL2
          obtain ⟨gi, ci, rfl⟩ := own_form hoi (64 * n) hL2 (by omega)
          have HF := Lib.hid (fin_at HD.out HZ.out HBl.out HMn.out HMl.out HCa.out HGw.out HI.out HGl.out HRow.out HO.out HB6.out HD7.out HT7.out hoi hb8)
          clear HD HBl HMl HCa HGw HI HGl HRow HO HB6 HD7 HT7 hoi hb8
          have HDd := Lib.hid (Dead_off w8 Z d (lost m pick) HF.out.dev rfl)
          have HL2 := Lib.hid hL2
          clear hL2
          go_wp2_with fail
          ((with_reducible refine HDd.out.mono ?_))
          rintro e w' ⟨rfl, rfl⟩
          have hci : 64 * n ≤ ci := own_cap2 HF.out.now HL2.out
          have hcw : 64 * n ≤ cw := own_cap2 HF.out.was HL1.out
          go_wp2_with fail
          go_loop [101] (fun i => ∃ k : Nat, k ≤ n ∧ i = .int .i64 k) (fun i => n - (intOf i).toNat)
          case atStart => exact ⟨0, by omega, rfl⟩
          case round =>
            obtain ⟨j, hj, rfl⟩ := hrel
            by_cases hjn : j < n
            · have hjI : (j : Int) < (n : Int) := by omega
              have hj0 : (0 : Int) ≤ (j : Int) := by omega
              have b1 : (j : Int) * 64 < (ci : Int) := by omega
              have b2 : ((j : Int) + 1) * 64 ≤ (ci : Int) := by omega
              have b3 : (j : Int) * 64 < (cw : Int) := by omega
              have b4 : ((j : Int) + 1) * 64 ≤ (cw : Int) := by omega
              have b5 : (0 : Int) ≤ (j : Int) * 64 := by omega
              have b6 : (j : Int) * 64 ≤ ((j : Int) + 1) * 64 := by omega
              have v1 := conv_sector HF.out.now HL2.out hjn
              have v2 := conv_sector HF.out.was HL1.out hjn
              have v3 := text_at HF.out.row hjn
              have HOr := Lib.hid (HF.out.either hjn HL1.out)
              generalize strN (sectorOf (lost m pick).laid j) = s1 at v1 HOr
              generalize strN (sectorOf L1 j) = s2 at v2 HOr
              generalize S.getD j ByteArray.empty = s3 at v3 HOr
              by_cases hs : s1 = s2
              · subst hs
                go_wp2
                go_round
                case rel => exact ⟨j + 1, by omega, by go_num⟩
                case measure => simp [intOf]; omega
              · obtain rfl : s1 = s3 := HOr.out.resolve_left hs
                go_wp2
                all_goals (refine ⟨⟨j + 1, by omega, by go_num⟩, ?_⟩; simp [intOf]; omega)
            · obtain rfl : j = n := by omega
              have hjI : ¬ (j : Int) < (j : Int) := by omega
              have HOrd := Lib.hid HF.out.order.read
              go_wp2_with fail
              go_loop [133] (fun i => ∃ k : Nat, k ≤ m.cache.length ∧ i = .int .i64 k) (fun i => m.cache.length - (intOf i).toNat)
              case atStart => exact ⟨0, by omega, rfl⟩
              case round =>
                obtain ⟨y, hy, rfl⟩ := hrel
                have hcl := HF.out.ok.len
                by_cases hyn : y < m.cache.length
                · have hyI : (y : Int) < (m.cache.length : Int) := by omega
                  have hy0 : (0 : Int) ≤ (y : Int) := by omega
                  obtain ⟨go, cp, hgo⟩ := row_form HF.out.order (by rw [keys_len]; omega)
                  have hao : ao = some ⟨go, 0, none⟩ := by injection hgo
                  subst hao
                  clear hgo
                  have ck := SlI.cell HOrd.out y (by rw [keys_len]; omega)
                  rw [Nat.zero_add] at ck
                  have hkn : (keys m.cache).getD y 0 < j := by
                    have := (HF.out.ok.cache _ (nth_mem hyn)).1
                    rw [HF.out.nn] at this
                    exact this
                  have HBt := Lib.hid (HF.out.bit hyn)
                  generalize (keys m.cache).getD y 0 = K at ck hkn HBt
                  have b1 : (K : Int) * 64 < (ci : Int) := by omega
                  have b2 : ((K : Int) + 1) * 64 ≤ (ci : Int) := by omega
                  have b5 : (0 : Int) ≤ (K : Int) * 64 := by omega
                  have b6 : (K : Int) * 64 ≤ ((K : Int) + 1) * 64 := by omega
                  have hKI : (K : Int) < (j : Int) := by omega
                  have hK0 : (0 : Int) ≤ (K : Int) := by omega
                  have v1 := conv_sector HF.out.now HL2.out hkn
                  have v3 := text_at HF.out.row hkn
                  have e1 : True → bits BinOp.and IntKind.u64 ((pick : Int) / 2 ^ (y % 64)) 1 = ((bitAt pick y : Nat) : Int) := fun _ => bit_and pick (y % 64) HP.out
                  generalize strN (sectorOf (lost m pick).laid K) = s1 at v1 HBt
                  generalize S.getD K ByteArray.empty = s3 at v3 HBt
                  by_cases hb : bitAt pick y = 1
                  · have e2 : True → (((bitAt pick y : Nat) : Int) == 1) = true := fun _ => by rw [hb]; rfl
                    obtain rfl : s1 = s3 := HBt.out hb
                    generalize bitAt pick y = bt at e1 e2
                    clear hb HBt
                    go_wp2
                    go_round
                    case rel => exact ⟨y + 1, by omega, by go_num⟩
                    case measure => simp [intOf]; omega
                  · have e2 : True → (((bitAt pick y : Nat) : Int) == 1) = false := fun _ => by rw [beq_eq_false_iff_ne]; omega
                    generalize bitAt pick y = bt at e1 e2
                    clear hb HBt
                    go_wp2
                    go_round
                    case rel => exact ⟨y + 1, by omega, by go_num⟩
                    case measure => simp [intOf]; omega
                · obtain rfl : y = m.cache.length := by omega
                  have hyI : ¬ ((m.cache.length : Nat) : Int) < ((m.cache.length : Nat) : Int) := by omega
                  have HOn := Lib.hid (On_any w8 Z d (lost m pick) HF.out.dev (by show 0 < m.n; rw [HF.out.nn]; omega))
                  go_wp2_with fail
                  ((with_reducible refine HOn.out.mono ?_))
                  rintro e w9 ⟨rfl, hd9, ht9⟩
                  have HD9 := Lib.hid hd9
                  have HB9 := Lib.hid (Turn.below HF.out.below ht9 HF.out.below.size HF.out.above)
                  clear hd9 ht9 HOn
                  go_wp2_with fail
                  ((with_reducible refine (Dead_on w9 Z d _ HD9.out rfl).mono ?_))
                  rintro e w' ⟨rfl, rfl⟩
                  go_wp2_with fail
                  ((with_reducible refine (Dirty_any w9 Z d _ HD9.out).mono ?_))
                  rintro e w10 ⟨⟨v10, rfl, ho10⟩, hb10⟩
                  obtain ⟨a10, c10, rfl⟩ := own_slice2 ho10 0 rfl
                  have HB10 := Lib.hid (HB9.out.trans (hb10.mono HB9.out.size))
                  clear ho10 hb10
                  go_wp2_with fail
                  ((with_reducible refine (HW.out w10).mono ?_))
                  rintro e w11 ⟨rfl, hb11⟩
                  have HB11 := Lib.hid (HB10.out.trans (hb11.mono HB10.out.size))
                  clear hb11
                  go_wp2
                  go_ret
                  exact ⟨rfl, HB11.out⟩

set_option maxRecDepth 100000 in
theorem liftedWall (os : Os) (started : os.Started) (H : Type) (enc : TypeId × Value → H) :
    ReturnsInHanded {} Try.checked os 5 .any (Rows.sectorWallSpec.pre6 enc Try.prog Try.f5 Rows.sectorWallRow.domain false) (Rows.sectorWallSpec.post enc Try.prog Try.f5 false true false false) := by
  refine lift.law (C := Try.checked) own started (by kernel_rfl) Try.func5
    (ChangeSpec.witness6 (enc := enc) (C := Try.checked) false ⟨#[], #[.int .i64 0, .slice none 0 0, .slice none 0 0, .int .u64 0], []⟩ 8 (by kernel_rfl) (by kernel_rfl) (by kernel_rfl) (by kernel_rfl)) laidOut (by kernel_rfl) 4 Try.underlying4 (by kernel_rfl) rfl ?_ ?_
  · intro ds hd
    match ds, hd with
    | [_, _, _, _], _ => rfl
  · intro W base args ds ps hg
    have hA : DataW.TrodAll enc Try.prog W 0 (fun _ => true) true Try.f5.params.toList args.toList ds ps := hg.read
    have hval : ∀ (j : Nat) t v, Try.f5.params[j]? = some t → args[j]? = some v → Value.okWide Try.prog W .any base t v := hg.ok
    have hz : (DataW.weightsEach Try.prog Try.f5.params.toList ds).all (· ≤ reachBytes) = true := hg.sized
    rw [Try.params5] at hA hval hz
    obtain ⟨v0, vs0, d0, ds0, p0, q0, hargs, rfl, rfl, h0, r0⟩ := trodAll_cons hA
    obtain ⟨v1, vs1, d1, ds1, p1, q1, rfl, rfl, rfl, h1, r1⟩ := trodAll_cons r0
    obtain ⟨v2, vs2, d2, ds2, p2, q2, rfl, rfl, rfl, h2, r2⟩ := trodAll_cons r1
    obtain ⟨v3, vs3, d3, ds3, p3, q3, rfl, rfl, rfl, h3, r3⟩ := trodAll_cons r2
    obtain ⟨rfl, rfl, rfl⟩ := trodAll_nil r3
    obtain rfl : args = #[v0, v1, v2, v3] := by cases args; simp_all
    obtain ⟨a0, rfl, rfl, rfl, w0⟩ := open_int Try.underlying3 (hval 0 3 v0 rfl rfl) h0
    obtain ⟨n1, V1, N1, hv1⟩ := rows_open (hval 1 39 v1 rfl rfl) h1 (weight hz (j := 1) rfl rfl)
    obtain ⟨n2, V2, N2, hv2⟩ := rows_open (hval 2 39 v2 rfl rfl) h2 (weight hz (j := 2) rfl rfl)
    obtain ⟨a3, rfl, rfl, rfl, w3⟩ := open_int Try.underlying29 (hval 3 29 v3 rfl rfl) h3
    have hk := u64_pos a3 w3
    obtain ⟨p, rfl⟩ := Int.eq_ofNat_of_zero_le hk.1
    exact walkWall W a0 v1 v2 n1 n2 V1 V2 N1 N2 hv1 hv2 p (by omega)

theorem wall_holds : Rows.SectorWallSaid :=
  OpenClaim.holds_of_wide 5 Try.f5 rfl rfl rfl rfl rfl rfl rfl ⟨rfl, rfl, rfl, rfl, rfl⟩ rfl rfl rfl rfl rfl (by kernel_rfl) Try.func5 (by kernel_rfl)
    (of_decide_eq_true (by kernel_rfl)) (by unfold Func.isWrapper; first | (rw [if_pos (by decide +kernel)]; kernel_rfl) | (rw [if_neg (by decide +kernel)]; exact ⟨rfl, rfl⟩))
    (fun os started H enc _ => liftedWall os started H enc)

#print axioms wall_holds

end Go.Proofs.Ytmipjhbbbpcdlaa.sector
