/- The document's journal: where it lies; the number of a sector of its row. -/
import Derived.Test.YtkhghkklekjdaaaDoorRows
import Derived.Test.YtkhghkklekjdaaaDoorJournalRLow
import Derived.Test.YtkhghkklekjdaaaDoorJournalGreat
import Derived.Test.YtkhghkklekjdaaaDoorSectorAll
import Derived.Deep.RegionHeld3
namespace Go.Proofs.YtkhghkklekjdaaaDoor.journal
open Go.RowKit
open Go.Proofs.YtkhghkklekjdaaaDoor.kit Go.Proofs.YtkhghkklekjdaaaDoor.own Go.Proofs.YtkhghkklekjdaaaDoor.jm Go.Proofs.YtkhghkklekjdaaaDoor.iter
open Go.Proofs.YtkhghkklekjdaaaDoor.fm (crc)
open Go.Proofs.YtkhghkklekjdaaaDoor.frame (byte_at)
open Go.Proofs.YtkhghkklekjdaaaDoor.sector (Dev RAt RReads rRead_hit rRead_miss look_len keys)
set_option linter.unusedVariables false

/-- A sector's bytes as the document reads them. -/
def RSec (w : World) (b o c : Nat) (S : List Nat) : Prop := 64 ≤ c ∧ ∀ j, j < 64 → w.cell? ⟨b, o + j, none⟩ = some (.int .u8 (S.getD j 0 : Nat))
theorem RSec.sub {w : World} {b o c : Nat} {S : List Nat} (h : RSec w b o c S) (hS : S.length = 64) (lo n : Nat) (h64 : lo + n ≤ 64) (hn : 0 < n) (c' : Nat) : SlI w .u8 (.slice (some ⟨b, o + lo, none⟩) n c') ((S.drop lo).take n) := by
  have hl : ((S.drop lo).take n).length = n := by rw [List.length_take, List.length_drop, hS]; omega
  refine ⟨by omega, some ⟨b, o + lo, none⟩, c', by rw [hl], fun _ => ⟨b, o + lo, rfl, fun j hj => ?_⟩⟩
  rw [hl] at hj
  rw [Nat.add_assoc, h.2 (lo + j) (by omega)]
  simp [List.getD, hj]
theorem RSec.keep {w w' : World} {b o c : Nat} {S : List Nat} (h : RSec w b o c S) (hb : Below w.heap.size w w') : RSec w' b o c S :=
  ⟨h.1, fun j hj => (hb.cell (p := ⟨b, o + j, none⟩) (cell_lt (h.2 j hj))).trans (h.2 j hj)⟩
theorem pc_num (b : List Nat) : (pcOf b).num = if (b.getD 0 0 = 1 ∨ b.getD 0 0 = 2) ∧ ofLe ((b.drop 1).take 8) ≤ maxNum then ofLe ((b.drop 1).take 8) else 0 := by
  unfold pcOf
  split
  · next h => rw [if_pos ⟨h.1, h.2.2⟩]
  · next h =>
    split
    · next h2 => simp only; omega
    · rfl
/-- The document's journal's variable. -/
def RJ (w : World) (K r f n a num : Nat) (bad : Bool) : Prop := w.heap[K]? = some (.cells #[.pointer (some ⟨r, 0, none⟩), .int .i64 (f : Int), .int .i64 (n : Int), .int .i64 (a : Int), .int .i64 (num : Int), .bool bad] 81 (0, 0))
theorem RJ.cells {w : World} {K r f n a num : Nat} {bad : Bool} (h : RJ w K r f n a num bad) : w.cell? ⟨K, 0, none⟩ = some (.pointer (some ⟨r, 0, none⟩)) ∧ w.cell? ⟨K, 1, none⟩ = some (.int .i64 (f : Int)) ∧ w.cell? ⟨K, 2, none⟩ = some (.int .i64 (n : Int)) ∧
    w.cell? ⟨K, 3, none⟩ = some (.int .i64 (a : Int)) ∧ w.cell? ⟨K, 4, none⟩ = some (.int .i64 (num : Int)) ∧ w.cell? ⟨K, 5, none⟩ = some (.bool bad) := by
  unfold RJ at h
  refine ⟨?_, ?_, ?_, ?_, ?_, ?_⟩ <;> simp [World.cell?, h]
theorem RJ.free {w : World} {K r f n a num : Nat} {bad : Bool} (h : RJ w K r f n a num bad) (j : Nat) : w.frozen? ⟨K, j, none⟩ = false := by
  unfold RJ at h
  simp [World.frozen?, h]
theorem RJ.lt {w : World} {K r f n a num : Nat} {bad : Bool} (h : RJ w K r f n a num bad) : K < w.heap.size := (Array.getElem?_eq_some_iff.1 h).1
theorem RJ.keep {w w' : World} {K r f n a num : Nat} {bad : Bool} (h : RJ w K r f n a num bad) (hb : Below w.heap.size w w') : RJ w' K r f n a num bad := (hb.block _ h.lt).trans h

theorem read_sec {w' : World} {b o n c : Nat} {S : List Nat} (hs : SlI w' .u8 (.slice (some ⟨b, o, none⟩) n c) S) (hc : n ≤ c) (hS : S.length = 64) : n = 64 ∧ RSec w' b o c S := by
  obtain ⟨_, a, cap, he, hcell⟩ := hs
  obtain ⟨b2, o2, ha, hcell⟩ := hcell (by omega)
  injection he with h1 h2 h3
  rw [ha] at h1
  injection h1 with h1
  injection h1 with h1 h4
  subst h1 h4
  exact ⟨by omega, by omega, fun j hj => hcell j (by omega)⟩
theorem rRead_in (w : World) (Y : Nat → Prop) (r : Nat) (m : Dev) (h : RAt w Y r m) (hp : m.power = true) (k : Nat) (hk : k < m.n) :
    Calls Tryd.prog 53 #[.pointer (some ⟨r, 0, none⟩), .int .i64 (k : Nat)] w (RReads w (sector.look m k)) := by
  by_cases hj : (keys m.cache).idxOf k < m.cache.length
  · exact rRead_hit w Y r m h hp k hk hj
  · exact rRead_miss w Y r m h hp k hk hj
theorem drewBelow (w : World) : Below w.heap.size w w.drew := ⟨rfl, rfl, rfl, Nat.le_refl _, fun _ _ => rfl⟩

set_option maxHeartbeats 4000000 in
set_option maxRecDepth 100000 in
theorem num_any (w : World) (Y : Nat → Prop) (K r f n a num : Nat) (bad : Bool) (m : Dev) (hj : RJ w K r f n a num bad) (hr : RAt w Y r m) (hp : m.power = true) (hf : f + n ≤ m.n) (at_ : Nat) (hat : at_ < n) :
    Calls Tryd.prog 40 #[.pointer (some ⟨K, 0, none⟩), .int .i64 (at_ : Int)] w fun e w' => e = .returned (.int .i64 ((pcOf (sector.look m (f + at_))).num : Nat)) ∧ Below w.heap.size w w' := by
  obtain ⟨k0, k1, k2, k3, k4, k5⟩ := hj.cells
  have hmn := hr.1.n
  have hL := look_len hr.1 (k := f + at_) (by omega)
  have h8 : ∀ x ∈ sector.look m (f + at_), x < 256 := look_lt hr.1 (by omega)
  have HR := Lib.hid (rRead_in w.drew Y r m (hr.keep (drewBelow w)) hp (f + at_) (by omega))
  have e1 : IntKind.i64.wrap ((f : Int) + (at_ : Int)) = ((f + at_ : Nat) : Int) := by rw [IntKind.wrap_i64]; omega
  have HE1 := Lib.hid e1
  generalize sector.look m (f + at_) = S at hL h8 HR ⊢
  generalize f + at_ = z at HR HE1
  obtain ⟨res, hres⟩ : ∃ res, (pcOf S).num = res := ⟨_, rfl⟩
  have hres2 := pc_num S
  rw [hres] at hres2 ⊢
  have HRes := Lib.hid hres2
  have HL := Lib.hid hL; have H8 := Lib.hid h8
  clear hj hr hp hf hat hmn e1 hL h8 hres hres2
  go_enter Tryd.func40, Tryd.ntmps40
  go_upto_region 1 with fail
  clear k2 k3 k4 k5
  have hlt := cell_lt k0
  go_region_held3 (fun u => u.cell? ⟨K, 0, none⟩ = some (.pointer (some ⟨r, 0, none⟩)) ∧ u.cell? ⟨K, 1, none⟩ = some (.int .i64 (f : Int)))
    (first | exact ⟨k0, k1⟩ | exact ⟨q0, q1⟩)
    (first | (go_at_call 53; rw [HE1.out]; refine HR.out.mono ?_; rintro e w2 ⟨b, o, l, c, rfl, hs, hb, hcl⟩; have q0 := (hb.cell (p := ⟨K, 0, none⟩) hlt).trans k0; have q1 := (hb.cell (p := ⟨K, 1, none⟩) hlt).trans k1; obtain ⟨rfl, hsc⟩ := read_sec hs hcl HL.out; have HS := Lib.hid hsc; have HB := Lib.hid hb; clear hs hb hcl hsc))
  have hx := ofLe_lt ((S.drop 1).take 8) (fun x hx => H8.out x (List.mem_of_mem_drop (List.mem_of_mem_take hx)))
  rw [show ((S.drop 1).take 8).length = 8 by simp [HL.out]] at hx
  have HN := Lib.hid (number_any _ _ w2 (HS.out.sub HL.out 1 8 (by omega) (by omega) (c - 1)) (fun x hx => H8.out x (List.mem_of_mem_drop (List.mem_of_mem_take hx))) (by simp; omega))
  have c0 := HS.out.2 0 (by omega)
  have hm := byte_at S H8.out 0
  have hcc := HS.out.1
  have HBw := Lib.hid (show Below w.heap.size w w2 from (drewBelow w).trans HB.out)
  rw [Nat.add_zero] at c0
  generalize ofLe ((S.drop 1).take 8) = x at HN hx HRes
  generalize S.getD 0 0 = y at c0 hm HRes
  have h9 : (9 : Int) ≤ (c : Int) := by omega
  clear q0 q1 k0 k1 HS hcc HR HE1 HL H8 HB hlt
  by_cases hy : y = 1 ∨ y = 2
  · by_cases hxm : x ≤ maxNum
    · have HR2 := HRes.out
      rw [if_pos ⟨hy, hxm⟩] at HR2
      have HRx := Lib.hid HR2
      have d1 : True → decide ((4611686018427387904 : Int) < (x : Int)) = false := fun _ => by rw [decide_eq_false_iff_not]; unfold maxNum at hxm; omega
      have HI := Lib.hid (show wrap64 (x : Int) = (x : Int) by unfold wrap64; unfold maxNum at hxm; omega)
      clear hx hxm hm HR2 HRes
      rcases hy with rfl | rfl
      · go_wp2_with fail
        refine HN.out.mono ?_
        rintro e w' ⟨rfl, rfl⟩
        go_wp2_with fail
        refine HN.out.mono ?_
        rintro e w' ⟨rfl, rfl⟩
        go_wp2
        go_ret
        exact ⟨by simp [HI.out, HRx.out], HBw.out⟩
      · go_wp2_with fail
        refine HN.out.mono ?_
        rintro e w' ⟨rfl, rfl⟩
        go_wp2_with fail
        refine HN.out.mono ?_
        rintro e w' ⟨rfl, rfl⟩
        go_wp2
        go_ret
        exact ⟨by simp [HI.out, HRx.out], HBw.out⟩
    · have HR2 := HRes.out
      rw [if_neg (fun h => hxm h.2)] at HR2
      have HRx := Lib.hid HR2
      have d1 : True → decide ((4611686018427387904 : Int) < (x : Int)) = true := fun _ => by rw [decide_eq_true_eq]; unfold maxNum at hxm; omega
      clear hx hxm hm HR2 HRes
      rcases hy with rfl | rfl
      · go_wp2_with fail
        refine HN.out.mono ?_
        rintro e w' ⟨rfl, rfl⟩
        go_wp2
        go_ret
        exact ⟨by rw [HRx.out]; rfl, HBw.out⟩
      · go_wp2_with fail
        refine HN.out.mono ?_
        rintro e w' ⟨rfl, rfl⟩
        go_wp2
        go_ret
        exact ⟨by rw [HRx.out]; rfl, HBw.out⟩
  · have HR2 := HRes.out
    rw [if_neg (fun h => hy h.1)] at HR2
    have HRx := Lib.hid HR2
    have n1 : ¬ (y : Int) = 1 := by omega
    have n2 : ¬ (y : Int) = 2 := by omega
    clear hx hm HR2 HRes hy HN
    go_wp2
    go_ret
    exact ⟨by rw [HRx.out]; rfl, HBw.out⟩

end Go.Proofs.YtkhghkklekjdaaaDoor.journal
