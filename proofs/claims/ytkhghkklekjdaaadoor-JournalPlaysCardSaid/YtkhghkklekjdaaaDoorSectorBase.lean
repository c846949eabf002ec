/- Words of the sectors' layer: bytes as cells, a block of 64 of them; blockOf and filled. -/
import Derived.Test.YtkhghkklekjdaaaDoorRows
import Derived.Test.YtkhghkklekjdaaaDoorOwn
import Derived.Laws.CopyOwn
import Derived.Deep.MidRow
import Derived.Deep.QuietTactic
import Derived.Deep.RegionHeld3
import Derived.Deep.Cut
import Derived.Laws.NewBlocks
namespace Go.Proofs.YtkhghkklekjdaaaDoor.sector
open Go.RowKit
open Go.Proofs.YtkhghkklekjdaaaDoor.kit Go.Proofs.YtkhghkklekjdaaaDoor.own
set_option linter.unusedVariables false

/-- Bytes as cells. -/
def bv (l : List Nat) : List Value := l.map fun n : Nat => Value.int .u8 (n : Int)
/-- .. and as a value. -/
def ba (l : List Nat) : Array Value := (bv l).toArray
@[simp] theorem bv_len (l : List Nat) : (bv l).length = l.length := by simp [bv]
@[simp] theorem ba_size (l : List Nat) : (ba l).size = l.length := by simp [ba]
theorem bv_at (l : List Nat) (j : Nat) (h : j < l.length) : (bv l)[j]? = some (.int .u8 (l.getD j 0 : Nat)) := by simp [bv, List.getD, h]
theorem bv_one (l : List Nat) : ∀ v ∈ bv l, v.oneCell' = true := by
  intro v hv
  obtain ⟨_, _, rfl⟩ := List.mem_map.1 hv
  rfl
theorem ba_one (l : List Nat) : (ba l).all (·.oneCell') = true := all_oneCell_toArray (bv_one l)
theorem bv_app (a b : List Nat) : bv (a ++ b) = bv a ++ bv b := by simp [bv]
theorem bv_take (l : List Nat) (n : Nat) : bv (l.take n) = (bv l).take n := by simp [bv, List.map_take]
theorem bv_drop (l : List Nat) (n : Nat) : bv (l.drop n) = (bv l).drop n := by simp [bv, List.map_drop]
theorem ba_list (l : List Nat) : (ba l).toList = bv l := by simp [ba]

theorem infoBlk : (Tryd.prog.info? 61).map (·.size) = some 64 := by kernel_rfl
theorem infoArr : (Tryd.prog.info? 60).map (·.size) = some 64 := by kernel_rfl
theorem infoByte1 : (Tryd.prog.info? 5).map (·.size) = some 1 := by kernel_rfl
theorem infoByte : (Tryd.prog.info? 5).map (fun i => (i.zero, i.size, i.bytes)) = some (some (.int .u8 0), 1, 1) := by kernel_rfl

def zeros64 : List Nat := List.replicate 64 0
theorem zeros64_eq : ba zeros64 = #[.int .u8 0, .int .u8 0, .int .u8 0, .int .u8 0, .int .u8 0, .int .u8 0, .int .u8 0, .int .u8 0, .int .u8 0, .int .u8 0, .int .u8 0, .int .u8 0, .int .u8 0, .int .u8 0, .int .u8 0, .int .u8 0,
  .int .u8 0, .int .u8 0, .int .u8 0, .int .u8 0, .int .u8 0, .int .u8 0, .int .u8 0, .int .u8 0, .int .u8 0, .int .u8 0, .int .u8 0, .int .u8 0, .int .u8 0, .int .u8 0, .int .u8 0, .int .u8 0,
  .int .u8 0, .int .u8 0, .int .u8 0, .int .u8 0, .int .u8 0, .int .u8 0, .int .u8 0, .int .u8 0, .int .u8 0, .int .u8 0, .int .u8 0, .int .u8 0, .int .u8 0, .int .u8 0, .int .u8 0, .int .u8 0,
  .int .u8 0, .int .u8 0, .int .u8 0, .int .u8 0, .int .u8 0, .int .u8 0, .int .u8 0, .int .u8 0, .int .u8 0, .int .u8 0, .int .u8 0, .int .u8 0, .int .u8 0, .int .u8 0, .int .u8 0, .int .u8 0] := by rfl

/-- What a slice of bytes reads as, cell by cell. -/
theorem SlI.cell {w : World} {k : IntKind} {b off n cap : Nat} {ns : List Nat} (h : SlI w k (.slice (some ⟨b, off, none⟩) n cap) ns) (j : Nat) (hj : j < ns.length) : w.cell? ⟨b, off + j, none⟩ = some (.int k (ns.getD j 0 : Nat)) := by
  obtain ⟨_, a, c, e, hc⟩ := h
  obtain ⟨b', o', e', hcell⟩ := hc (by omega)
  cases e; cases e'
  exact hcell j hj

/-- Cells read as bytes give a slice that reads so. -/
theorem sl_of_range {w : World} {b off : Nat} {l : List Nat} {cap : Nat} (h : w.rangeAt b off (bv l)) (hl : l.length ≤ 9223372036854775807) : SlI w .u8 (.slice (some ⟨b, off, none⟩) l.length cap) l :=
  ⟨hl, _, _, rfl, fun _ => ⟨b, off, rfl, fun j hj => h j _ (bv_at l j hj)⟩⟩
theorem range_of_block {w : World} {b : Nat} {cs : List Value} {t : TypeId} (h : w.heap[b]? = some (.cells cs.toArray t (0, 0))) : w.rangeAt b 0 cs := fun j v hv => by
  simp only [World.cell?, h]
  simpa using hv
theorem there_of_block {w : World} {b n : Nat} {cs : List Value} {t : TypeId} (h : w.heap[b]? = some (.cells cs.toArray t (0, 0))) (hn : n ≤ cs.length) : w.there b 0 n := fun j hj => by
  have : j < cs.length := by omega
  simp [World.cell?, World.frozen?, h, this]

theorem splice_full (ns : List Nat) (h : 64 ≤ ns.length) : splice (bv zeros64) 0 (bv (ns.take 64)) = bv (ns.take 64) := by
  have : (bv (ns.take 64)).length = 64 := by simp; omega
  simp only [splice, this, List.take_zero, List.nil_append]
  rw [List.drop_of_length_le (by simp [zeros64]), List.append_nil]

theorem alloc2_fst (w : World) (o o' : Obj) : ((w.alloc o).alloc o').heap[w.heap.size]? = some o := by
  rw [alloc_heap, Array.getElem?_push, if_neg (by simp), alloc_at]
theorem alloc2_snd (w : World) (o o' : Obj) : ((w.alloc o).alloc o').heap[w.heap.size + 1]? = some o' := by
  have := alloc_at (w.alloc o) o'
  rw [World.size_alloc] at this
  exact this

set_option maxHeartbeats 4000000 in
set_option maxRecDepth 100000 in
theorem blockOf_any (v : Value) (ns : List Nat) (w : World) (hv : SlI w .u8 v ns) (h64 : 64 ≤ ns.length) :
    Calls Tryd.prog 32 #[v] w fun e w' => e = .returned (.agg (ba (ns.take 64))) ∧ Below w.heap.size w w' := by
  obtain ⟨hl, a, cap, rfl, hc⟩ := id hv
  obtain ⟨b, off, rfl, hcell⟩ := hc (by omega)
  have HV := Lib.hid hv; have H64 := Lib.hid h64
  clear hv hc hcell
  obtain ⟨L, hL⟩ : ∃ L, ns.length = L := ⟨_, rfl⟩
  have HL := Lib.hid hL
  rw [hL] at hl HV h64 ⊢
  clear hL
  have hb1 := (Below.refl w.heap.size w).alloc (Nat.le_refl _) (.cells (ba zeros64) 61)
  have HW := Lib.hid (hb1.alloc (by simp) (.cells (ba zeros64) 61))
  have HA := Lib.hid (show ((w.alloc (.cells (ba zeros64) 61)).alloc (.cells (ba zeros64) 61)).heap[w.heap.size]? = some (.cells (ba zeros64) 61 (0, 0)) from alloc2_fst _ _ _)
  have HA1 := Lib.hid (show ((w.alloc (.cells (ba zeros64) 61)).alloc (.cells (ba zeros64) 61)).heap[w.heap.size + 1]? = some (.cells (ba zeros64) 61 (0, 0)) from alloc2_snd _ _ _)
  have HS := Lib.hid (show ((w.alloc (.cells (ba zeros64) 61)).alloc (.cells (ba zeros64) 61)).heap.size = w.heap.size + 2 by simp)
  clear hb1
  go_enter Tryd.func32, Tryd.ntmps32
  go_upto_region 2 with fail
  rw [zeros64_eq] at HW HA HA1 HS
  generalize ((w.alloc (.cells _ 61)).alloc (.cells _ 61)) = W0 at HW HA HA1 HS ⊢
  rw [← zeros64_eq] at HA HA1
  have HX := Lib.hid (HV.out.keep HW.out)
  have hb0 := Below.refl W0.heap.size W0
  go_wp2_with (refine wpList_copy_splice (o := ⟨some 6, _, _, _, _, _⟩) rfl (.tmp 4) (.tmp 5) 22 22 rfl 5 Tryd.underlying22 infoByte1 _ _ _ _ _ _ rfl rfl (w.heap.size + 1) 0 (bv zeros64) 61 HA1.out (bv (ns.take 64)) ?_ ?_ ?_ (bv_one _) (w.heap.size + 1) W0 ?_ (Nat.le_refl _) ?_)
  case refine_1 =>
    show _ = min L 64
    rw [bv_len, List.length_take]; have := HL.out; omega
  case refine_2 =>
    intro _ j v hv
    rw [bv_take] at hv
    have hj : j < 64 := by have := (List.getElem?_eq_some_iff.1 hv).1; simp at this; omega
    rw [List.getElem?_take, if_pos hj, bv_at ns j (by have := HL.out; omega)] at hv
    cases hv
    exact SlI.cell HX.out j (by have := HL.out; omega)
  case refine_3 => simp [zeros64]; omega
  case refine_4 => exact ⟨rfl, rfl, rfl, Nat.le_refl _, fun _ _ => rfl⟩
  case refine_5 =>
    intro w2 hg2 hb2
    have HG := Lib.hid hg2.out
    rw [splice_full ns (by have := HL.out; omega)] at HG
    have hg1 : w2.heap[w.heap.size]? = some (.cells (bv zeros64).toArray 61 (0, 0)) := (hb2.block w.heap.size (by omega)).trans HA.out
    have hT := there_of_block (n := 64) hg1 (by simp [zeros64])
    have hR := range_of_block HG.out
    have hlen : (bv (ns.take 64)).length = 64 := by have := HL.out; simp; omega
    have HB := Lib.hid (HW.out.trans (hb2.mono (by omega)))
    have hi : (Tryd.prog.info? 61).map (·.size) = some (bv (ns.take 64)).length := by rw [hlen]; exact infoBlk
    have hi2 : (Tryd.prog.info? 61).map (·.size) = some (ba (ns.take 64)).size := by rw [ba_size, ← bv_len]; exact hi
    have hT2 : w2.there w.heap.size 0 (ba (ns.take 64)).size := by rw [ba_size, ← bv_len, hlen]; exact hT
    clear hg2 hb2 HX hb0 hg1 HA HA1
    go_wp2_with (first
      | refine wpList_load_mid rfl 61 _ rfl (w.heap.size + 1) 0 rfl _ _ hR Tryd.underlying61 rfl hi ?_
      | refine wpList_store_mid rfl 61 _ _ rfl w.heap.size 0 (ba (ns.take 64)) rfl rfl hT2 hi2 (ba_one _) ?_)
    refine bodyPost_ret (ret_cell rfl rfl (World.rangeAt_setCells_same _ _ _ _ (by rw [ba_list, ← ba_size] at *; exact hT2)) Tryd.underlying61 rfl (by rw [ba_list]; exact hi)) rfl ?_
    rw [ba_list]
    exact ⟨rfl, Below.setCells HB.out (Nat.le_refl _) _ _⟩

/-- Bytes filled up with zeros, or cut off, to 64. -/
def fill64 (ns : List Nat) : List Nat := ns.take 64 ++ List.replicate (64 - ns.length) 0
theorem fill64_len (ns : List Nat) : (fill64 ns).length = 64 := by simp [fill64]; omega
theorem fill64_lt {ns : List Nat} (h : ∀ n ∈ ns, n < 256) : ∀ n ∈ fill64 ns, n < 256 := by
  intro n hn
  rcases List.mem_append.1 hn with h1 | h1
  · exact h n (List.mem_of_mem_take h1)
  · obtain ⟨_, rfl⟩ := List.mem_replicate.1 h1
    omega
theorem splice_fill (ns : List Nat) : splice (bv zeros64) 0 (bv (ns.take 64)) = bv (fill64 ns) := by
  simp only [splice, List.take_zero, List.nil_append, fill64, bv_app, bv_len, List.length_take, Nat.zero_add]
  congr 1
  simp only [bv, zeros64, List.map_replicate, List.drop_replicate]
  congr 1
  omega

/-- What 'filled' gives: a slice of 64 bytes over an array of the call's own. -/
def Filled (w : World) (ns : List Nat) (e : Ending) (w' : World) : Prop :=
  ∃ g, e = .returned (.slice (some ⟨g, 0, none⟩) 64 64) ∧ w'.heap[g]? = some (.cells (ba (fill64 ns)) 60 (0, 0)) ∧ w.heap.size ≤ g ∧ Below w.heap.size w w'

end Go.Proofs.YtkhghkklekjdaaaDoor.sector
