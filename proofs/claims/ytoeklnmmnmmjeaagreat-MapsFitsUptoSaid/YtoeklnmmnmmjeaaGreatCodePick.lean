/- A field of a slice of fields, if it is fit: the closure that 'write' hands to its row; and 'row' itself. -/
import Derived.Test.YtoeklnmmnmmjeaaGreatRows
import Derived.Test.YtoeklnmmnmmjeaaGreatCodeField
import Derived.Test.YtoeklnmmnmmjeaaGreatIter
import Derived.Deep.Cut
namespace Go.Proofs.YtoeklnmmnmmjeaaGreat.code
open Go.RowKit
open Go.Proofs.YtoeklnmmnmmjeaaGreat.kit Go.Proofs.YtoeklnmmnmmjeaaGreat.cm Go.Proofs.YtoeklnmmnmmjeaaGreat.iter
set_option linter.unusedVariables false

/-- The slice value v reads, in the world w, as the fields fs. -/
def SlF (w : World) (v : Value) (fs : List Fld) : Prop :=
  fs.length ≤ 9223372036854775807 ∧ ∃ (a : Option Addr) (cap : Nat), v = .slice a fs.length cap ∧
    (0 < fs.length → ∃ b off, a = some ⟨b, off, none⟩ ∧ b < w.heap.size ∧ ∀ j (h : j < fs.length), w.cell? ⟨b, off + j * 4, none⟩ = some (.int .i64 fs[j].kind) ∧ w.cell? ⟨b, off + j * 4 + 1, none⟩ = some (.int .i64 fs[j].num) ∧
      w.cell? ⟨b, off + j * 4 + 2, none⟩ = some (.string fs[j].text) ∧ w.cell? ⟨b, off + j * 4 + 3, none⟩ = some (.bool fs[j].is))

theorem SlF.below {w w' : World} {v : Value} {fs : List Fld} (h : SlF w v fs) (hb : Below w.heap.size w w') : SlF w' v fs := by
  obtain ⟨hl, a, cap, rfl, hc⟩ := h
  refine ⟨hl, a, cap, rfl, fun h0 => ?_⟩
  obtain ⟨b, off, rfl, hlt, hcell⟩ := hc h0
  refine ⟨b, off, rfl, Nat.lt_of_lt_of_le hlt hb.size, fun j hj => ?_⟩
  obtain ⟨h1, h2, h3, h4⟩ := hcell j hj
  exact ⟨(hb.cell (p := ⟨b, _, none⟩) hlt).trans h1, (hb.cell (p := ⟨b, _, none⟩) hlt).trans h2, (hb.cell (p := ⟨b, _, none⟩) hlt).trans h3, (hb.cell (p := ⟨b, _, none⟩) hlt).trans h4⟩

theorem infoF : (Tryz.prog.info? 86).map (·.size) = some 4 := by kernel_rfl
theorem cells4_one (a b : Int) (c : ByteArray) (d : Bool) : (#[Value.int .i64 a, .int .i64 b, .string c, .bool d] : Array Value).all (·.oneCell') = true := by simp [Value.oneCell']
def zeroF : Fld := ⟨0, 0, .empty, false⟩

set_option maxHeartbeats 4000000 in
set_option maxRecDepth 100000 in
theorem pick_any (w : World) (N : Nat) (sl : Value) (fs : List Fld) (i : Nat) (hi : i < fs.length) (f : Fld) (hf : fs[i] = f) (hN : w.heap[N]? = some (.cells #[sl] 76 (0, 0))) (hs : SlF w sl fs) :
    Calls Tryz.prog 154 #[.int .i64 i, .pointer (some ⟨N, 0, none⟩)] w fun e w' =>
      e = .returned (.tuple #[(if f.fit then f else zeroF).val, .int .i64 (if f.fit then 0 else 14)]) ∧ Below w.heap.size w w' := by
  go_enter Tryz.func154, Tryz.ntmps154
  go_upto_region 1 with fail
  have hb1 : Below w.heap.size w (w.alloc (.cells #[.int .i64 0, .int .i64 0, .string { data := #[] }, .bool false] 86)) := (Below.refl _ _).alloc (Nat.le_refl _) _
  have hR := heap_alloc_last w (.cells #[.int .i64 0, .int .i64 0, .string { data := #[] }, .bool false] 86)
  have hs1 := hs.below hb1
  have hN1 := (hb1.block N (Array.getElem?_eq_some_iff.1 hN).1).trans hN
  have HB1 := Lib.hid hb1
  clear hb1 hs hN
  have hRl := (Array.getElem?_eq_some_iff.1 hR).1
  generalize (w.alloc (.cells #[.int .i64 0, .int .i64 0, .string { data := #[] }, .bool false] 86)) = W1 at hR hs1 hN1 HB1 hRl ⊢
  generalize hRR : w.heap.size = R at hR HB1 hRl ⊢
  have HRR := Lib.hid hRR
  clear hRR
  obtain ⟨hl, a, cap, rfl, hc⟩ := id hs1
  obtain ⟨b, off, rfl, hlt, hcell⟩ := hc (by omega)
  obtain ⟨h1, h2, h3, h4⟩ := hcell i hi
  rw [hf] at h1 h2 h3 h4
  clear hcell hc hf
  obtain ⟨L, hL⟩ : ∃ L, fs.length = L := ⟨_, rfl⟩
  rw [hL] at hN1 hl
  have hi' : i < L := by omega
  have HL := Lib.hid hL
  have hlt' : (i : Int) < L := by omega
  have hN0 : W1.cell? ⟨N, 0, none⟩ = some (.slice (some ⟨b, off, none⟩) L cap) := by simp [World.cell?, hN1]
  have HN := Lib.hid hN1; have HR := Lib.hid hR; have HS := Lib.hid hs1; have HRl := Lib.hid hRl; have Hlt := Lib.hid hlt
  clear hN1 hR hs1 hL hRl hlt hi
  go_wp2_with fail
  refine (fit_any f W1).mono ?_
  rintro e w2 ⟨rfl, hb2⟩
  have hN2 : w2.cell? ⟨N, 0, none⟩ = some (.slice (some ⟨b, off, none⟩) L cap) := (hb2.cell (p := ⟨N, 0, none⟩) (Array.getElem?_eq_some_iff.1 HN.out).1).trans hN0
  have g1 := (hb2.cell (p := ⟨b, off + i * 4, none⟩) Hlt.out).trans h1
  have g2 := (hb2.cell (p := ⟨b, off + i * 4 + 1, none⟩) Hlt.out).trans h2
  have g3 := (hb2.cell (p := ⟨b, off + i * 4 + 2, none⟩) Hlt.out).trans h3
  have g4 := (hb2.cell (p := ⟨b, off + i * 4 + 3, none⟩) Hlt.out).trans h4
  have hR2 := (hb2.block R HRl.out).trans HR.out
  have hT : w2.there R 0 4 := by
    intro j hj
    match j, hj with
    | 0, _ => simp [World.cell?, World.frozen?, hR2]
    | 1, _ => simp [World.cell?, World.frozen?, hR2]
    | 2, _ => simp [World.cell?, World.frozen?, hR2]
    | 3, _ => simp [World.cell?, World.frozen?, hR2]
  have HB2 := Lib.hid hb2; have HR2 := Lib.hid hR2
  clear hb2 hR2 h1 h2 h3 h4 hN0
  by_cases hfit : f.fit = true
  · rw [hfit]
    go_wp2_with (refine wpList_store_mid rfl 86 _ _ rfl R 0 #[.int .i64 f.kind, .int .i64 f.num, .string f.text, .bool f.is] rfl rfl hT infoF (cells4_one _ _ _ _) ?_)
    refine bodyPost_ret (by exact ret_cell_tmp (cs := [.int .i64 f.kind, .int .i64 f.num, .string f.text, .bool f.is]) rfl rfl (World.rangeAt_setCells_same _ _ _ _ hT) Tryz.underlying86 rfl infoF) rfl ?_
    refine ⟨by first | rfl | (rw [if_pos hfit]; rfl), ?_⟩
    have h0 := HB1.out; rw [← HRR.out] at h0
    refine Below.setCells (h0.trans (HB2.out.mono h0.size)) (by rw [HRR.out]; exact Nat.le_refl _) _ _
  · have hfit' : f.fit = false := by simpa using hfit
    rw [hfit']
    go_wp2_with (refine wpList_store_mid rfl 86 _ _ rfl R 0 #[.int .i64 0, .int .i64 0, .string { data := #[] }, .bool false] rfl rfl hT infoF (cells4_one _ _ _ _) ?_)
    refine bodyPost_ret (by exact ret_cell_tmp (cs := [.int .i64 0, .int .i64 0, .string { data := #[] }, .bool false]) rfl rfl (World.rangeAt_setCells_same _ _ _ _ hT) Tryz.underlying86 rfl infoF) rfl ?_
    refine ⟨by first | rfl | (rw [if_neg hfit]; rfl), ?_⟩
    have h0 := HB1.out; rw [← HRR.out] at h0
    refine Below.setCells (h0.trans (HB2.out.mono h0.size)) (by rw [HRR.out]; exact Nat.le_refl _) _ _

set_option maxHeartbeats 4000000 in
set_option maxRecDepth 100000 in
/-- 'row': the two it captures are boxed. -/
theorem row_any (n : Nat) (g : Fn) (lb : Array Value) (w : World) :
    Calls Tryz.prog 153 #[.int .i64 n, .func g #[] lb] w fun e w' => e = .returned (.func (.func 192) #[] #[.pointer (some ⟨w.heap.size, 0, none⟩), .pointer (some ⟨w.heap.size + 1, 0, none⟩)]) ∧
      w' = (w.alloc (.cells #[.int .i64 n] 3)).alloc (.cells #[.func g #[] lb] 185) := by
  go_enter Tryz.func153, Tryz.ntmps153
  go_wp2
  go_ret
  exact ⟨rfl, rfl⟩

end Go.Proofs.YtoeklnmmnmmjeaaGreat.code
