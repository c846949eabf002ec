/- What a device tells: Read, Dirty, Image; New and Load. -/
import Derived.Test.YtkhghkklekjdaaaDoorRows
import Derived.Test.YtkhghkklekjdaaaDoorSectorOps
import Derived.Laws.MakeOwn
import Derived.Lib.SliceRun
namespace Go.Proofs.YtkhghkklekjdaaaDoor.sector
open Go.RowKit
open Go.Proofs.YtkhghkklekjdaaaDoor.kit Go.Proofs.YtkhghkklekjdaaaDoor.own
set_option linter.unusedVariables false

/-- Cells of a block that is known whole are written. -/
theorem block_setCells {b : Nat} {t : TypeId} : ∀ (vs : List Value) (o : Nat) (w : World) (cs : List Value), w.heap[b]? = some (.cells cs.toArray t (0, 0)) → o + vs.length ≤ cs.length →
    (w.setCells b o vs).heap[b]? = some (.cells (splice cs o vs).toArray t (0, 0))
  | [], o, w, cs, h, hl => by simpa [splice, World.setCells] using h
  | v :: vs, o, w, cs, h, hl => by
    simp only [List.length_cons] at hl
    have h1 := cell_set (j := o) v h
    have e1 : cs.toArray.setIfInBounds o v = (cs.set o v).toArray := by simp
    rw [e1] at h1
    have h2 := block_setCells vs (o + 1) _ _ h1 (by rw [List.length_set]; omega)
    rw [splice_cons cs o v vs (by omega)] at h2
    exact h2
theorem splice_all {α : Type} (l : List α) (vs : List α) (h : vs.length = l.length) : splice l 0 vs = vs := by
  simp only [splice, List.take_zero, List.nil_append, Nat.zero_add]
  rw [List.drop_of_length_le (by omega), List.append_nil]

/-- What is read of a sector: of the cache, or laid down. -/
def sectorOf (l : List Nat) (k : Nat) : List Nat := (l.drop (k * 64)).take 64
def look (m : Dev) (k : Nat) : List Nat := if (keys m.cache).idxOf k < m.cache.length then nth m.cache ((keys m.cache).idxOf k) else sectorOf m.laid k

/-- Bytes in a block of the call's own. -/
def Reads (w : World) (x : List Nat) (e : Ending) (w' : World) : Prop :=
  ∃ g, e = .returned (.tuple #[.slice (some ⟨g, 0, none⟩) 64 64, .int .i64 0]) ∧ w'.heap[g]? = some (.cells (ba x) 61 (0, 0)) ∧ w.heap.size ≤ g ∧ Below w.heap.size w w'

set_option maxRecDepth 100000 in
theorem Read_dead (w : World) (Z : Nat → Prop) (d : Nat) (m : Dev) (h : DevAt w Z d m) (hp : m.power = false) (k : Int) :
    Calls Tryd.prog 51 #[.pointer (some ⟨d, 0, none⟩), .int .i64 k] w fun e w' => e = .returned (.tuple #[.slice none 0 0, .int .i64 22]) ∧ w = w' := by
  have HD := Lib.hid (Dead_off w Z d m h hp)
  clear h
  go_enter Tryd.func51, Tryd.ntmps51
  go_wp2_with fail
  refine HD.out.mono ?_
  rintro e w' ⟨rfl, rfl⟩
  go_wp2
  go_ret2
  exact ⟨rfl, rfl⟩

set_option maxRecDepth 100000 in
theorem Read_number (w : World) (Z : Nat → Prop) (d : Nat) (m : Dev) (h : DevAt w Z d m) (hp : m.power = true) (k : Int) (hk : ¬ (0 ≤ k ∧ k < (m.n : Int))) :
    Calls Tryd.prog 51 #[.pointer (some ⟨d, 0, none⟩), .int .i64 k] w fun e w' => e = .returned (.tuple #[.slice none 0 0, .int .i64 20]) ∧ w = w' := by
  have HD := Lib.hid (Dead_on w Z d m h hp)
  have HH := Lib.hid (has_no w Z d m h k hk)
  clear h hk hp
  go_enter Tryd.func51, Tryd.ntmps51
  go_wp2_with fail
  refine HD.out.mono ?_
  rintro e w' ⟨rfl, rfl⟩
  go_wp2_with fail
  refine HH.out.mono ?_
  rintro e w' ⟨rfl, rfl⟩
  go_wp2
  go_ret2
  exact ⟨rfl, rfl⟩

theorem there_new (w : World) : (w.alloc (.cells (ba zeros64) 61)).there w.heap.size 0 64 := there_of_block (cs := bv zeros64) (alloc_at w _) (by simp [zeros64])
theorem read_new {w w1 : World} (hb : Below w.heap.size w w1) (x : List Nat) (hx : x.length = 64) :
    ((w1.alloc (.cells (ba zeros64) 61)).setCells w1.heap.size 0 (ba x).toList).heap[w1.heap.size]? = some (.cells (ba x) 61 (0, 0)) ∧ Below w.heap.size w ((w1.alloc (.cells (ba zeros64) 61)).setCells w1.heap.size 0 (ba x).toList) := by
  rw [ba_list]
  refine ⟨?_, Below.setCells (hb.alloc hb.size _) hb.size _ _⟩
  have := block_setCells (bv x) 0 _ (bv zeros64) (alloc_at w1 (.cells (bv zeros64).toArray 61)) (by simp [zeros64, hx])
  rw [splice_all _ _ (by simp [zeros64, hx])] at this
  exact this

set_option maxHeartbeats 1000000 in
set_option maxRecDepth 100000 in
theorem Read_hit (w : World) (Z : Nat → Prop) (d : Nat) (m : Dev) (h : DevAt w Z d m) (hp : m.power = true) (k : Nat) (hk : k < m.n) (hj : (keys m.cache).idxOf k < m.cache.length) :
    Calls Tryd.prog 51 #[.pointer (some ⟨d, 0, none⟩), .int .i64 k] w (Reads w (look m k)) := by
  have HD := Lib.hid (Dead_on w Z d m h hp)
  have HH := Lib.hid (has_yes w Z d m h k ⟨by omega, by omega⟩)
  have hj2 := idx_hit (ns := keys m.cache) (k := k) (by rw [keys_len]; exact hj)
  have HF := Lib.hid (find_hit w Z d m h k _ hj hj2.1 hj2.2)
  have hx : (look m k).length = 64 := by unfold look; rw [if_pos hj]; exact (h.1.cache _ (nth_mem hj)).2.1
  have e : nth m.cache ((keys m.cache).idxOf k) = look m k := by unfold look; rw [if_pos hj]
  rw [e] at HF
  clear h hk hp hj hj2 e
  generalize look m k = x at hx HF ⊢
  have HX := Lib.hid hx
  have hx2 := Lib.hid (show (Tryd.prog.info? 61).map (·.size) = some (ba x).size by rw [ba_size, hx]; exact infoBlk)
  have hT := fun w1 : World => (show (w1.alloc (.cells (ba zeros64) 61)).there w1.heap.size 0 (ba x).size by rw [ba_size, hx]; exact there_new w1)
  have hN := fun (w1 : World) (hb : Below w.heap.size w w1) => read_new hb x hx
  clear hx
  rw [zeros64_eq] at hT hN
  have HT := Lib.hid hT; have HN := Lib.hid hN
  clear hT hN
  go_enter Tryd.func51, Tryd.ntmps51
  go_wp2_with fail
  refine HD.out.mono ?_
  rintro e w' ⟨rfl, rfl⟩
  go_wp2_with fail
  refine HH.out.mono ?_
  rintro e w' ⟨rfl, rfl⟩
  go_wp2_with fail
  refine HF.out.mono ?_
  rintro e w1 ⟨rfl, hb1⟩
  have HB1 := Lib.hid hb1
  clear hb1
  go_wp2_with (refine wpList_store_mid rfl 61 _ _ rfl w1.heap.size 0 (ba x) rfl rfl (HT.out w1) hx2.out (ba_one _) ?_)
  go_ret2
  obtain ⟨h1, h2⟩ := HN.out w1 HB1.out
  exact ⟨w1.heap.size, rfl, h1, HB1.out.size, h2⟩

theorem read_new2 {A Y : Array Value} (hA : ba zeros64 = A) (hY : ba zeros64 = Y) {w w1 : World} (hb : Below w.heap.size w w1) (x : List Nat) (hx : x.length = 64) :
    ((w1.alloc (.cells A 61)).there w1.heap.size 0 Y.size) ∧
    (((w1.alloc (.cells A 61)).setCells w1.heap.size 0 Y.toList).there w1.heap.size 0 (ba x).size) ∧
    (((w1.alloc (.cells A 61)).setCells w1.heap.size 0 Y.toList).setCells w1.heap.size 0 (ba x).toList).heap[w1.heap.size]? = some (.cells (ba x) 61 (0, 0)) ∧
    Below w1.heap.size w1 ((w1.alloc (.cells A 61)).setCells w1.heap.size 0 Y.toList) ∧
    Below w.heap.size w (((w1.alloc (.cells A 61)).setCells w1.heap.size 0 Y.toList).setCells w1.heap.size 0 (ba x).toList) := by
  subst hA; subst hY
  have hz : (ba zeros64).size = 64 := by rw [ba_size]; simp [zeros64]
  obtain ⟨h1, h2⟩ := read_new hb zeros64 (by simp [zeros64])
  obtain ⟨_, h3⟩ := read_new (Below.refl w1.heap.size w1) zeros64 (by simp [zeros64])
  refine ⟨by rw [hz]; exact there_new w1, ?_, ?_, h3, Below.setCells h2 hb.size _ _⟩
  · rw [ba_size x, hx]
    exact there_of_block (cs := bv zeros64) h1 (by simp [zeros64])
  · rw [ba_list x]
    have := block_setCells (bv x) 0 _ (bv zeros64) h1 (by simp [zeros64, hx])
    rw [splice_all _ _ (by simp [zeros64, hx])] at this
    exact this

theorem sectorOf_len {l : List Nat} {n k : Nat} (hl : l.length = 64 * n) (hk : k < n) : (sectorOf l k).length = 64 := by
  simp only [sectorOf, List.length_take, List.length_drop]
  omega
theorem Lies.laid_at {w : World} {Z : Nat → Prop} {d : Nat} {m : Dev} {vo vb vl : Value} (h : Lies w Z d m vo vb vl) (ho : m.Ok) {k : Nat} (hk : k < m.n) :
    ∃ g cap, vl = .slice (some ⟨g, 0, none⟩) m.n cap ∧ w.rangeAt g (k * 64) (bv (sectorOf m.laid k)) := by
  obtain ⟨g, cap, e⟩ := h.vl_form (by omega)
  refine ⟨g, cap, e, fun i v hv => ?_⟩
  have hb := h.laid
  have hi : i < 64 := by
    have := (List.getElem?_eq_some_iff.1 hv).1
    rw [bv_len, sectorOf_len ho.laid hk] at this
    exact this
  have hk1 := Nat.mul_le_mul_right 64 (show k + 1 ≤ m.n from hk)
  rw [e] at hb
  rw [hb.cellAt (k * 64 + i) (by omega)]
  unfold bv at hv ⊢
  rw [List.getElem?_map] at hv ⊢
  rw [sectorOf, List.getElem?_take, if_pos hi, List.getElem?_drop] at hv
  exact hv

set_option maxHeartbeats 1000000 in
set_option maxRecDepth 100000 in
theorem Read_miss (w : World) (Z : Nat → Prop) (d : Nat) (m : Dev) (h : DevAt w Z d m) (hp : m.power = true) (k : Nat) (hk : k < m.n) (hj : ¬ (keys m.cache).idxOf k < m.cache.length) :
    Calls Tryd.prog 51 #[.pointer (some ⟨d, 0, none⟩), .int .i64 k] w (Reads w (look m k)) := by
  have HD := Lib.hid (Dead_on w Z d m h hp)
  have HH := Lib.hid (has_yes w Z d m h k ⟨by omega, by omega⟩)
  have hj2 := idx_miss (ns := keys m.cache) (k := k) (by rw [keys_len]; exact hj)
  have HF := Lib.hid (find_miss w Z d m h k (by simpa using hj2))
  have e : sectorOf m.laid k = look m k := by unfold look; rw [if_neg hj]
  have hx : (look m k).length = 64 := by rw [← e]; exact sectorOf_len h.1.laid hk
  obtain ⟨ho, vo, vb, vl, hl⟩ := h
  obtain ⟨gl, cl, rfl, hr⟩ := hl.laid_at ho hk
  have c2 := hl.cell 2
  simp [devCells] at c2
  rw [e] at hr
  have hk0 : (0 : Int) ≤ (k : Int) := by omega
  have hkI : (k : Int) < (m.n : Int) := by omega
  have HL := Lib.hid hl
  clear ho hk hp hj hj2 e hl
  generalize m.n = n at HH c2 hkI HL
  generalize look m k = x at hx HF hr ⊢
  have HR := Lib.hid hr
  have hx2 := Lib.hid (show (Tryd.prog.info? 61).map (·.size) = some (ba x).size by rw [ba_size, hx]; exact infoBlk)
  have hx3 := Lib.hid (show (Tryd.prog.info? 61).map (·.size) = some (bv x).length by rw [bv_len, hx]; exact infoBlk)
  have hz2 := Lib.hid (show (Tryd.prog.info? 61).map (·.size) = some (ba zeros64).size by rw [ba_size]; exact infoBlk)
  obtain ⟨Y, hY⟩ : ∃ Y, ba zeros64 = Y := ⟨_, rfl⟩
  have hN := fun (w1 : World) (hb : Below w.heap.size w w1) => read_new2 zeros64_eq hY hb x hx
  have hY1 := Lib.hid (show Y.all (·.oneCell') = true by rw [← hY]; exact ba_one _)
  rw [hY] at HF hz2
  clear hY
  have HN := Lib.hid hN
  clear hx hr hN
  go_enter Tryd.func51, Tryd.ntmps51
  go_wp2_with fail
  refine HD.out.mono ?_
  rintro e w' ⟨rfl, rfl⟩
  go_wp2_with fail
  refine HH.out.mono ?_
  rintro e w' ⟨rfl, rfl⟩
  go_wp2_with fail
  refine HF.out.mono ?_
  rintro e w1 ⟨rfl, hb1⟩
  have HB1 := Lib.hid hb1
  obtain ⟨t1, t2, t3, t4, t5⟩ := HN.out w1 hb1
  have HT1 := Lib.hid t1; have HT2 := Lib.hid t2; have HT3 := Lib.hid t3; have HT4 := Lib.hid t4; have HT5 := Lib.hid t5
  have hdl : d < w.heap.size := HL.out.lt
  have hgl : gl < w.heap.size := (HL.out.laid.lt gl rfl).2
  clear hb1 HN t1 t2 t3 t4 t5
  have c2' := (HB1.out.cell (p := ⟨d, 2, none⟩) hdl).trans c2
  have c2'' := (HT4.out.cell (p := ⟨d, 2, none⟩) (by have := HB1.out.size; simp only; omega)).trans c2'
  have HR1 := Lib.hid (show World.rangeAt _ gl (k * 64) (bv x) from fun i v hv => (HT4.out.cell (p := ⟨gl, k * 64 + i, none⟩) (by have := HB1.out.size; simp only; omega)).trans ((HB1.out.cell (p := ⟨gl, k * 64 + i, none⟩) hgl).trans (HR.out i v hv)))
  clear c2 c2'
  go_wp2_with (first
    | refine wpList_store_mid rfl 61 (.tmp 6) (.tmp 20) rfl w1.heap.size 0 Y rfl rfl HT1.out hz2.out hY1.out ?_
    | refine wpList_store_mid rfl 61 (.tmp 6) (.tmp 30) rfl w1.heap.size 0 (ba x) rfl rfl HT2.out hx2.out (ba_one _) ?_
    | refine wpList_load_mid rfl 61 _ rfl gl (k * 64) rfl (bv x) _ HR1.out Tryd.underlying61 rfl hx3.out ?_)
  go_ret2
  exact ⟨w1.heap.size, rfl, HT3.out, HB1.out.size, HT5.out⟩

theorem Read_ok (w : World) (Z : Nat → Prop) (d : Nat) (m : Dev) (h : DevAt w Z d m) (hp : m.power = true) (k : Nat) (hk : k < m.n) :
    Calls Tryd.prog 51 #[.pointer (some ⟨d, 0, none⟩), .int .i64 k] w (Reads w (look m k)) := by
  by_cases hj : (keys m.cache).idxOf k < m.cache.length
  · exact Read_hit w Z d m h hp k hk hj
  · exact Read_miss w Z d m h hp k hk hj

/-- A row of numbers of the call's own. -/
def Makes (w : World) (e0 : Nat) (kd : IntKind) (ns : List Nat) (e : Ending) (w' : World) : Prop := (∃ v', e = .returned v' ∧ OwnI w' w.heap.size e0 kd v' ns) ∧ Below w.heap.size w w'

set_option maxRecDepth 100000 in
theorem Image_nil (w : World) : Calls Tryd.prog 22 #[.pointer none] w fun e w' => e = .returned (.slice none 0 0) ∧ w = w' := by
  go_enter Tryd.func22, Tryd.ntmps22
  go_wp2
  go_ret
  exact ⟨rfl, rfl⟩

theorem made_bytes (w : World) (L : Nat) (hL : L ≤ 1000000) : ∃ w1, (Instr.makeSlice 22 (.int .i64 0) (.int .i64 (L : Nat))).run Tryd.prog w = .ok (.slice (some ⟨w.heap.size, 0, none⟩) 0 L) w1 ∧
    OwnI w1 w.heap.size 5 .u8 (.slice (some ⟨w.heap.size, 0, none⟩) 0 L) [] ∧ Below w.heap.size w w1 := by
  obtain ⟨i0, hi, hz0, hz1, hz2⟩ := info_parts infoByte
  obtain ⟨w1, h1, h2, h3⟩ := run_make_own (P := Tryd.prog) w w.heap.size 22 5 i0 (.int .u8 0) 1 Tryd.underlying22 hi hz0 hz1 .i64 .i64 L (by rw [hz2]; omega) (by unfold maxLen; omega) (Nat.le_refl _)
  exact ⟨w1, h1, h2, ⟨h3.os, h3.tape, h3.output, h3.size, fun k hk => h3.block k hk (by simp)⟩⟩

set_option maxHeartbeats 4000000 in
set_option maxRecDepth 100000 in
theorem Image_any (w : World) (Z : Nat → Prop) (d : Nat) (m : Dev) (h : DevAt w Z d m) :
    Calls Tryd.prog 22 #[.pointer (some ⟨d, 0, none⟩)] w (Makes w 5 .u8 m.laid) := by
  obtain ⟨ho, vo, vb, vl, hl⟩ := h
  have c2 := hl.cell 2
  simp [devCells] at c2
  have HL := Lib.hid hl; have HO := Lib.hid ho
  obtain ⟨al, cl, rfl⟩ := hl.vl_len
  have hn := ho.n
  have hdl := hl.lt
  obtain ⟨n, hnn⟩ : ∃ n, m.n = n := ⟨_, rfl⟩
  have HN := Lib.hid hnn
  rw [hnn] at c2 hn HL
  obtain ⟨w1, hmk, ho1, hb1⟩ := made_bytes w (n * 64) (by omega)
  have e1 : ((n * 64 : Nat) : Int) = (n : Int) * 64 := by omega
  rw [e1] at hmk
  have HO1 := Lib.hid ho1; have HB1 := Lib.hid hb1
  have c2' := (hb1.cell (p := ⟨d, 2, none⟩) hdl).trans c2
  clear hl ho hnn e1 ho1 hb1
  go_enter Tryd.func22, Tryd.ntmps22
  go_wp2
  clear hmk
  go_loopw [3, 20] (fun vr vi wr => ∃ q : Nat, q ≤ n ∧ vi = .int .i64 q ∧ OwnI wr w.heap.size 5 .u8 vr (m.laid.take (q * 64)) ∧ Below w.heap.size w wr) (fun _ i _ => n - (intOf i).toNat)
  case atStart => exact ⟨0, by omega, rfl, by simpa using HO1.out, HB1.out⟩
  case round =>
    obtain ⟨q, hq, rfl, hro, hrb⟩ := hrel
    have HRo := Lib.hid hro; have HRb := Lib.hid hrb
    clear hro hrb
    by_cases hqn : q < n
    · have hqI : (q : Int) < (n : Int) := by omega
      have hq0 : (0 : Int) ≤ (q : Int) := by omega
      obtain ⟨gl, cl', hvl, hr⟩ := HL.out.laid_at HO.out (k := q) (by have := HN.out; omega)
      have hal : al = some ⟨gl, 0, none⟩ := by injection hvl
      subst hal
      have hgl : gl < w.heap.size := (HL.out.laid.lt gl rfl).2
      have hx := sectorOf_len HO.out.laid (k := q) (by have := HN.out; omega)
      have htk : m.laid.take ((q + 1) * 64) = m.laid.take (q * 64) ++ sectorOf m.laid q := by
        rw [show (q + 1) * 64 = q * 64 + 64 by omega, List.take_add]; rfl
      have HTk := Lib.hid htk
      have HLl := Lib.hid (show (m.laid.take (q * 64)).length = q * 64 by rw [List.length_take, HO.out.laid, HN.out]; omega)
      generalize sectorOf m.laid q = x at hr hx HTk
      have HR := Lib.hid (show wr.rangeAt gl (q * 64) (bv x) from fun i v hv => (HRb.out.cell (p := ⟨gl, q * 64 + i, none⟩) hgl).trans (hr i v hv))
      have HX := Lib.hid hx
      have hx2 := Lib.hid (show (Tryd.prog.info? 61).map (·.size) = some (ba x).size by rw [ba_size, hx]; exact infoBlk)
      have hx3 := Lib.hid (show (Tryd.prog.info? 61).map (·.size) = some (bv x).length by rw [bv_len, hx]; exact infoBlk)
      have hT := (show (wr.alloc (.cells (ba zeros64) 61)).there wr.heap.size 0 (ba x).size by rw [ba_size, hx]; exact there_new wr)
      have hN := read_new (Below.refl wr.heap.size wr) x hx
      rw [zeros64_eq] at hT hN
      have HT := Lib.hid hT; have HNw := Lib.hid hN
      clear hT hN hx hr hvl htk c2 c2'
      go_upto_region 7 with (first
        | refine wpList_store_mid rfl 61 (.tmp 5) (.tmp 23) rfl wr.heap.size 0 (ba x) rfl rfl HT.out hx2.out (ba_one _) ?_
        | refine wpList_load_mid rfl 61 (.tmp 22) rfl gl (q * 64) rfl (bv x) _ HR.out Tryd.underlying61 rfl hx3.out ?_)
      obtain ⟨n1, n2⟩ := HNw.out
      have hOwn := HRo.out.below n2
      have HBw := Lib.hid (HRb.out.trans (n2.mono HRb.out.size))
      generalize (World.setCells _ wr.heap.size 0 (ba x).toList) = W1 at n1 n2 hOwn HBw ⊢
      have HO2 := Lib.hid hOwn; have H1 := Lib.hid n1; have H2 := Lib.hid n2
      clear n1 n2 hOwn HNw HT
      go_wp2_with (at_builtin; refine appN rfl (.tmp 24) (.tmp 25) 22 rfl w.heap.size 5 .u8 1 Tryd.underlying22 infoByte _ _ rfl HO2.out wr.heap.size 0 64 64 x HX.out rfl ?_ ?_ ?_ HBw.out.size ?_)
      case refine_1 =>
        intro j hj
        exact range_of_block H1.out j _ (bv_at x j (by have := HX.out; omega))
      case refine_2 => have := HLl.out; simp [maxLen]; omega
      case refine_3 => have := HLl.out; simp; omega
      case refine_4 =>
        intro v' w' ho hk
        have HO3 := Lib.hid ho; have HK3 := Lib.hid (HBw.out.trans (hk.toBelow))
        clear ho hk
        go_wp2
        go_roundw
        case rel => exact ⟨q + 1, by omega, by go_num, by rw [HTk.out]; exact HO3.out, HK3.out⟩
        case measure => simp [intOf]; omega
    · obtain rfl : q = n := by omega
      have htk : m.laid.take (q * 64) = m.laid := List.take_of_length_le (by rw [HO.out.laid, HN.out]; omega)
      rw [htk] at HRo
      clear c2 c2' htk
      go_wp2
      go_ret
      exact ⟨⟨_, rfl, HRo.out⟩, HRb.out⟩

end Go.Proofs.YtkhghkklekjdaaaDoor.sector
