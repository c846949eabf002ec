/- 'append(b, make([]byte, k)...)' onto a slice of the call's own. -/
import Derived.Test.YtkhghkklekjdaaaDoorRows
import Derived.Test.YtkhghkklekjdaaaDoorJournalLow
import Derived.Lib.AppendZerosOnto
import Derived.OwnWalkIn
import Derived.Lib.AppendStr
import Derived.Lib.ConvBytes
import Derived.Test.YtkhghkklekjdaaaDoorSectorWallM
namespace Go.Proofs.YtkhghkklekjdaaaDoor.journal
open Go.RowKit
open Go.Proofs.YtkhghkklekjdaaaDoor.kit Go.Proofs.YtkhghkklekjdaaaDoor.own Go.Proofs.YtkhghkklekjdaaaDoor.jm
set_option linter.unusedVariables false
set_option linter.unusedSimpArgs false

theorem zeroCells_eq (k : Nat) : Builtin.zeroCells (Value.int .u8 0).cells k = ((List.replicate k 0).map fun n : Nat => Value.int .u8 (n : Int)).toArray := by
  refine Array.ext (by simp [Builtin.zeroCells, Value.cells]) fun j h1 h2 => ?_
  simp [Builtin.zeroCells, Value.cells, Nat.mod_one]

theorem run_append_zeros {P : Program} (w : World) (B : Nat) (t tn ty e : TypeId) (i : TypeInfo) (kq kn : IntKind) (ht : P.underlying t = some (.slice e)) (htn : P.underlying tn = some (.int kn)) (hi : P.info? e = some i) (hz : i.zero = some (.int .u8 0))
    (hsize : i.size = 1) (hby : i.bytes = 1) (g n cap : Nat) (ns : List Nat) (hn : ns.length = n) (hown : OwnI w B e .u8 (.slice (some ⟨g, 0, none⟩) n cap) ns) (k : Nat) (hk : n + k ≤ 1000000000000) (hB : B ≤ w.heap.size) :
    ∃ v' w', (Builtin.append_ #[t, tn] ty #[.slice (some ⟨g, 0, none⟩) n cap, .int kq (k : Int)]).run P w = .ok v' w' ∧ OwnI w' B e .u8 v' (ns ++ List.replicate k 0) ∧ Kept B e w w' := by
  have hwr : IntKind.i64.wrap (k : Int) = k := by rw [IntKind.wrap_i64]; omega
  rcases hown.2 with ⟨h, _⟩ | ⟨g', cap', cur, he, hbg, hg, hnc, hcm, hcs, htake⟩
  · cases h
  cases he
  have hsz : (((List.replicate k 0).map fun n : Nat => Value.int .u8 (n : Int))).length = k := by simp
  have hxl : (ns.map fun n : Nat => Value.int .u8 (n : Int)).length = ns.length := by simp
  rcases Nat.lt_or_ge cap (ns.length + k) with hlt | hroom
  · have hk0 : 0 < k := by omega
    have hge := grownCap_ge w (ns.length + k) cap e
    have hcm2 : grownCap w (ns.length + k) cap e ≤ maxLen := grownCap_le_maxLen w (ns.length + k) cap e (by unfold maxLen; omega)
    have hold := hown.cells (g := g) rfl
    have hr := Lib.run_append_grow_zeros (P := P) w t tn ty e i (.int .u8 0) kq kn ht htn hi hz (some ⟨g, 0, none⟩) ns.length cap (ns.map fun n : Nat => Value.int .u8 (n : Int))
      (by rw [hsize]; exact run_firstCells_some (P := P) w.drew 1 ns.length ⟨g, 0, none⟩ ns.length cap _ (by simp) (fun j u hu => hold j u hu)) k hk0 (by rw [hsize]; decide) (by omega) (by omega) (by rw [hby]; omega) (by
        rw [hby]
        have := growslice_fits (need := ns.length + k) (old := cap) (bytes := 1) (by omega) (by omega)
        simpa using this)
    have hk1 : Kept B e w (w.drew.alloc (.cells ((ns.map fun n : Nat => Value.int .u8 (n : Int)).toArray ++ Builtin.zeroCells (Value.int .u8 0).cells k ++ Builtin.zeroCells (Value.int .u8 0).cells (grownCap w (ns.length + k) cap e - (ns.length + k))) e)) :=
      Kept.of_below hB ⟨rfl, rfl, rfl, by simp, fun j hj => heap_alloc_old w.drew _ hj⟩
    refine ⟨_, _, hr, ?_, hk1⟩
    refine ⟨by simp, .inr ⟨w.heap.size, _, _, by simp, hB, heap_alloc_new w.drew _, by simpa using hge, hcm2, ?_, ?_⟩⟩
    · simp only [Array.size_append, List.size_toArray, size_zeroCells, List.length_map]
      simp [Value.cells]
      omega
    · rw [zeroCells_eq k]
      simp only [Array.toList_append, List.append_assoc, List.map_append]
      rw [← List.append_assoc]
      rw [List.take_append_of_le_length (by simp), List.take_of_length_le (by simp)]
  · have hst := run_storeCells_at P g ns.length e ((List.replicate k 0).map fun n : Nat => Value.int .u8 (n : Int)) 0 cur w hg (by rw [hsz]; omega) (by intro u hu; obtain ⟨_, _, rfl⟩ := List.mem_map.1 hu; rfl)
    simp only [Nat.add_zero] at hst
    refine ⟨.slice (some ⟨g, 0, none⟩) (ns.length + k) cap, w.setRow g (cur.toList.take ns.length ++ ((List.replicate k 0).map fun n : Nat => Value.int .u8 (n : Int)) ++ cur.toList.drop (ns.length + k)).toArray, ?_, ?_, ?_⟩
    · rcases Nat.eq_zero_or_pos k with h0 | h0
      · subst h0
        simp only [List.replicate_zero, List.map_nil] at hst ⊢
        have hw0 : IntKind.i64.wrap 0 = 0 := by rw [IntKind.wrap_i64]; omega
        simp [Builtin.append_, run_underlying ht, run_underlying htn, sizeOf, typeInfo, zeroValue, hi, hz, asInt, asIntOf, hw0, hsize, hby, Addr.add_lit, hnc, hst]
      · have hk0 : k ≠ 0 := by omega
        have hneg : ¬ ((k : Int) < 0) := by omega
        have h48i : ¬ (281474976710656 < (k : Int)) := by omega
        rw [show ((List.replicate k 0).map fun n : Nat => Value.int .u8 (n : Int)) = (Builtin.zeroCells (Value.int .u8 0).cells k).toList by rw [zeroCells_eq]] at hst ⊢
        simp [Builtin.append_, run_underlying ht, run_underlying htn, sizeOf, typeInfo, zeroValue, hi, hz, asInt, asIntOf, hwr, hsize, hby, hk0, hneg, h48i, Addr.add_lit, hroom, hst]
        rw [size_zeroCells]
        simp [Value.cells]
    · refine ⟨by simp, .inr ⟨g, cap, _, by simp, hbg, setRow_heap w g cur _ e _ hg, by simpa using hroom, hcm, ?_, ?_⟩⟩
      · simp; omega
      · have hl1 : (cur.toList.take ns.length).length = ns.length := by simp; omega
        rw [Nat.mul_one] at htake
        rw [htake, List.map_append]
        rw [Nat.mul_one]
        exact List.take_left' (by simp)
    · refine ⟨rfl, rfl, rfl, by simp, fun j hj => setRow_other w g j _ (by omega), fun j hj hne => setRow_other w g j _ (fun e' => hne cur (0, 0) (e' ▸ hg))⟩

set_option maxRecDepth 100000 in
/-- 'b = append(b, make([]byte, k)...)', in a fence. -/
theorem app0_in {F : Fence} {n' : Nat} {P : Program} {wr : World} {ops : Array Oper} {rest : List Oper} {o : Oper} {a : Act} {Q : Exit → Act → World → Prop} (hgd : o.guard = none) (s x : Operand) (t tn : TypeId)
    (ho : o.op = .call { callee := .builtin .append, args := #[s, x], argTypes := #[t, tn] })
    (B e : Nat) (kq kn : IntKind) (ht : P.underlying t = some (.slice e)) (htn : P.underlying tn = some (.int kn)) (hi : (P.info? e).map (fun i => (i.zero, i.size, i.bytes)) = some (some (.int .u8 0), 1, 1))
    (g n cap : Nat) (ns : List Nat) (hs : a.eval s = .slice (some ⟨g, 0, none⟩) n cap) (hn : ns.length = n) (hown : OwnI wr B e .u8 (.slice (some ⟨g, 0, none⟩) n cap) ns) (k : Nat) (z : Int) (hz : z = (k : Int)) (hx : a.eval x = .int kq z) (hk : n + k ≤ 1000000000000) (hB : B ≤ wr.heap.size)
    (h : ∀ v' w', OwnI w' B e .u8 v' (ns ++ List.replicate k 0) → Kept B e wr w' → wpListIn F n' P ops Q rest (a.put o.dst v') w') : wpListIn F n' P ops Q (o :: rest) a wr := by
  subst hz
  obtain ⟨i0, hi, hz0, hz1, hz2⟩ := info_parts hi
  refine wpListIn_plain hgd fun K hK => ?_
  obtain ⟨v', w', hr, h2, h3⟩ := run_append_zeros (P := P) wr B t tn o.type e i0 kq kn ht htn hi hz0 hz1 hz2 g n cap ns hn hown k hk hB
  unfold Oper.wpIn
  refine ⟨?_, ?_⟩
  · simp [Oper.about, ho, resolve, Target.leads, Sem.run_pure]
  · rw [Oper.semAt_plain F _ _ (by rw [ho]; intro c hc'; cases hc')]
    simp [execOp, ho, resolve, invoke, builtin, hs, hx, hr, Result.andThen]
    exact hK _ _ (h v' w' h2 h3)

/-- A text's bytes. -/
def byN (s : ByteArray) : List Nat := s.data.toList.map UInt8.toNat
theorem byN_len (s : ByteArray) : (byN s).length = s.size := by unfold byN; rw [List.length_map, Array.length_toList]; rfl
theorem byN_lt (s : ByteArray) : ∀ n ∈ byN s, n < 256 := by
  intro n hn
  obtain ⟨b, _, rfl⟩ := List.mem_map.1 hn
  exact b.toNat_lt
theorem strN_byN (s : ByteArray) : sector.strN (byN s) = s := by
  have : ((byN s).map fun n : Nat => (n : Int)).map (fun n : Int => UInt8.ofNat n.toNat) = s.data.toList := by
    unfold byN
    rw [List.map_map, List.map_map]
    conv => rhs; rw [← List.map_id s.data.toList]
    refine List.map_congr_left fun b _ => ?_
    simp
  unfold sector.strN strOfNums
  rw [this]
theorem byN_strN (l : List Nat) (h : ∀ n ∈ l, n < 256) : byN (sector.strN l) = l := by
  unfold byN sector.strN
  rw [strOfNums_data, List.map_map, List.map_map]
  conv => rhs; rw [← List.map_id l]
  refine List.map_congr_left fun n hn => ?_
  have := h n hn
  simp
  omega
theorem strCells_by (s : ByteArray) : Lib.strCells s = (byN s).map fun n : Nat => Value.int .u8 (n : Int) := by
  simp [Lib.strCells, byN, List.map_map]
theorem strN_size (l : List Nat) : (sector.strN l).size = l.length := by unfold sector.strN; rw [strOfNums_size, List.length_map]
theorem strN_take (l : List Nat) (n : Nat) : (sector.strN l).extract 0 n = sector.strN (l.take n) := by
  unfold sector.strN strOfNums
  apply ByteArray.ext
  simp [ByteArray.data_extract, List.map_take]
theorem strN_drop (l : List Nat) (n m : Nat) (hm : l.length ≤ m) : (sector.strN l).extract n m = sector.strN (l.drop n) := by
  unfold sector.strN strOfNums
  apply ByteArray.ext
  simp [ByteArray.data_extract, List.map_drop]
  rw [List.take_of_length_le (by simp; omega)]

/-- 'b = append(b, s...)' of a text, in a fence. -/
theorem appStr_in {F : Fence} {n' : Nat} {P : Program} {wr : World} {ops : Array Oper} {rest : List Oper} {o : Oper} {a : Act} {Q : Exit → Act → World → Prop} (hgd : o.guard = none) (s x : Operand) (t u : TypeId)
    (ho : o.op = .call { callee := .builtin .append, args := #[s, x], argTypes := #[t, u] })
    (B e : Nat) (ht : P.underlying t = some (.slice e)) (hu : P.underlying u = some .string) (hi : (P.info? e).map (fun i => (i.zero, i.size, i.bytes)) = some (some (.int .u8 0), 1, 1))
    (v : Value) (ns : List Nat) (hs : a.eval s = v) (hown : OwnI wr B e .u8 v ns) (st : ByteArray) (ms : List Nat) (hms : byN st = ms) (hx : a.eval x = .string st) (hk : ns.length + ms.length ≤ 1000000000000) (hB : B ≤ wr.heap.size)
    (h : ∀ v' w', OwnI w' B e .u8 v' (ns ++ ms) → Kept B e wr w' → wpListIn F n' P ops Q rest (a.put o.dst v') w') : wpListIn F n' P ops Q (o :: rest) a wr := by
  obtain ⟨i0, hi, hz0, hz1, hz2⟩ := info_parts hi
  have hsz : st.size = ms.length := by rw [← hms, byN_len]
  refine wpListIn_plain hgd fun K hK => ?_
  obtain ⟨v', w', hr, h2, h3, _⟩ := Lib.run_append_own_string (P := P) wr B t u o.type e i0 ht hu hi hz0 hz1 hz2 v ns.length (ns.map fun n : Nat => Value.int .u8 (n : Int)) hown st (by unfold maxLen; omega) (by omega) hB
  unfold Oper.wpIn
  refine ⟨?_, ?_⟩
  · simp [Oper.about, ho, resolve, Target.leads, Sem.run_pure]
  · rw [Oper.semAt_plain F _ _ (by rw [ho]; intro c hc'; cases hc')]
    simp [execOp, ho, resolve, invoke, builtin, hs, hx, hr, Result.andThen]
    refine hK _ _ (h v' w' ?_ (Kept.grown hB hown h3))
    rw [hsz, strCells_by, hms] at h2
    unfold OwnI
    simpa using h2

/-- '[]byte(s)'. -/
theorem conv_str {P : Program} (w : World) (src e dst : TypeId) (hs : P.underlying src = some .string) (he : P.underlying e = some (.int .u8)) (hd : P.underlying dst = some (.slice e)) (s : ByteArray) (hsz : s.size ≤ 1000000000000) :
    ∃ v w', (convert src dst (.string s)).run P w = .ok v w' ∧ SlI w' .u8 v (byN s) ∧ (∀ n c, v = .slice none n c → c = 0) ∧ Below w.heap.size w w' := by
  have hr := Lib.run_convert_string_bytes (P := P) w src dst e s hs hd he
  refine ⟨_, _, hr, ⟨?_, some ⟨w.heap.size, 0, none⟩, _, by rw [byN_len], fun h0 => ⟨w.heap.size, 0, rfl, fun j hj => ?_⟩⟩, fun n c e => (by cases e), ⟨rfl, rfl, rfl, by rw [Lib.bytesWorld_size]; omega, fun k hk => Lib.bytesWorld_at_old w e s k hk⟩⟩
  · rw [byN_len]; omega
  · rw [byN_len] at hj
    have hn := Lib.bytesWorld_at_new w e s
    have hd : (Lib.bytesCells w e s)[0 + j]? = some (.int .u8 ((byN s).getD j 0 : Nat)) := by
      have hj' : j < s.data.size := hj
      unfold Lib.bytesCells
      rw [Nat.zero_add, Array.getElem?_append_left (by simpa using hj')]
      simp only [byN, List.getD, Array.getElem?_map, List.getElem?_map, Array.getElem?_toList, Array.getElem?_eq_getElem hj', Option.map_some, Option.getD_some]
    simp only [World.cell?, hn]
    exact hd

end Go.Proofs.YtkhghkklekjdaaaDoor.journal
