/- Chapter 3's examples: the law's own 'awake', which is true. -/
import Derived.Test.YtkjenddmkmlbeaaDoorRows
import Derived.Test.YtkjenddmkmlbeaaDoorFrameRead
import Derived.Test.YtkjenddmkmlbeaaDoorFrameJoin
import Derived.Lib.SlBytesConst
namespace Go.Proofs.YtkjenddmkmlbeaaDoor.frame
open Go.RowKit
open Go.Proofs.YtkjenddmkmlbeaaDoor.kit Go.Proofs.YtkjenddmkmlbeaaDoor.own Go.Proofs.YtkjenddmkmlbeaaDoor.fm
set_option linter.unusedVariables false
set_option linter.constructorNameAsVariable false

theorem bts_own {w : World} {B e : Nat} {v : Value} {ns : List Nat} (h : OwnI w B e .u8 v ns) (h8 : ∀ n ∈ ns, n < 256) : Bts w v ns := by
  refine ⟨h.read, h8, ?_, ?_⟩
  · intro n c e
    rcases h.2 with ⟨rfl, h0⟩ | ⟨g, cap, cur, rfl, _⟩
    · cases e; rfl
    · cases e
  · intro a n c e
    rcases h.2 with ⟨rfl, h0⟩ | ⟨g, cap, cur, rfl, _, _, hle, _⟩
    · cases e; omega
    · cases e; exact hle
theorem bts_new (w : World) (ns : List Nat) (h8 : ∀ n ∈ ns, n < 256) (hl : ns.length ≤ 100) (cs : Array Value) (hcs : cs = (ns.map fun n : Nat => Value.int .u8 (n : Int)).toArray) (fz : Nat × Nat) :
    Bts (w.alloc (.cells cs 5 fz)) (.slice (some ⟨w.heap.size, 0, none⟩) ns.length ns.length) ns := by
  refine ⟨⟨by omega, _, _, rfl, fun _ => ⟨_, _, rfl, fun j hj => ?_⟩⟩, h8, fun n c e => (by cases e), fun a n c e => (by cases e; exact Nat.le_refl _)⟩
  have h := alloc_at w (.cells cs 5 fz)
  have h2 : (w.alloc (.cells cs 5 fz)).cell? ⟨w.heap.size, 0 + j, none⟩ = cs[0 + j]? := by
    unfold World.cell?
    simp only
    rw [h]
    rfl
  rw [h2, hcs]
  simp [List.getD, hj]
theorem conv_of {w : World} {v : Value} {ns : List Nat} (h : Bts w v ns) (s : ByteArray) (hs : strOfNums (ns.map fun n : Nat => (n : Int)) = s) : (convert 22 9 v).run Tryd.prog w = .ok (.string s) w := by
  rw [← hs]
  exact conv_bytes (P := Tryd.prog) 22 5 9 Tryd.underlying22 Tryd.underlying5 Tryd.underlying9 h.1

def S11 : List Nat := sealed 7 [104, 105]
theorem S11_open : openP S11 = .ok (7, [104, 105], 11) := by kernel_rfl
theorem S11_len : S11.length = 11 := sealed_len _ _
theorem S11_lt : ∀ b ∈ S11, b < 256 := sealed_lt _ _ (by omega) (by simp)

theorem seal_hi (w : World) (hn : Nib w) : Calls Tryd.prog 7 #[.int .u8 7, .slice (some ⟨w.heap.size, 0, none⟩) 2 2] (w.alloc (.cells #[.int .u8 104, .int .u8 105] 5 (2, 3))) fun e w' =>
    (∃ g cap, e = .returned (.tuple #[.slice (some ⟨g, 0, none⟩) 11 cap, .int .i64 0]) ∧ 11 ≤ cap ∧ Bts w' (.slice (some ⟨g, 0, none⟩) 11 cap) S11) ∧ Below w.heap.size w w' := by
  have hb : Below w.heap.size w (w.alloc (.cells #[.int .u8 104, .int .u8 105] 5 (2, 3))) := (Below.refl _ w).alloc (Nat.le_refl _) _
  refine (Seal_ok 7 (by omega) _ [104, 105] _ (bts_new w [104, 105] (by simp) (by simp) _ rfl _) (hn.keep hb) (by simp)).mono ?_
  rintro e w' ⟨⟨v', rfl, ho⟩, hb2⟩
  obtain ⟨g, cap, rfl, hB, hc, _⟩ := own_at ho (by rw [sealed_len]; omega)
  have h := bts_own ho (sealed_lt 7 [104, 105] (by omega) (by simp))
  rw [show (sealed 7 [104, 105]).length = 11 from S11_len] at h hc ⊢
  exact ⟨⟨g, cap, rfl, hc, h⟩, hb.trans (hb2.mono hb.size)⟩

theorem open_zero (w : World) (hn : Nib w) : Calls Tryd.prog 11 #[.slice (some ⟨w.heap.size, 0, none⟩) 1 1] (w.alloc (.cells #[.int .u8 0] 5)) fun e w' =>
    e = .returned (.tuple #[.int .u8 0, .slice none 0 0, .int .i64 0, .int .i64 10]) ∧ Below w.heap.size w w' := by
  have hb : Below w.heap.size w (w.alloc (.cells #[.int .u8 0] 5)) := (Below.refl _ w).alloc (Nat.le_refl _) _
  refine (Open_any _ [0] _ (bts_new w [0] (by simp) (by simp) _ rfl _) (hn.keep hb) (by simp)).mono ?_
  rintro e w' ⟨hb2, h⟩
  rw [show openP [0] = .error 10 from rfl] at h
  exact ⟨h, hb.trans (hb2.mono hb.size)⟩

theorem open_hi (v : Value) (w : World) (hv : Bts w v S11) (hn : Nib w) : Calls Tryd.prog 11 #[v] w fun e w' =>
    (∃ v', e = .returned (.tuple #[.int .u8 7, v', .int .i64 11, .int .i64 0]) ∧ Bts w' v' [104, 105]) ∧ Below w.heap.size w w' := by
  refine (Open_any v S11 w hv hn (by rw [S11_len]; omega)).mono ?_
  rintro e w' ⟨hb2, h⟩
  rw [S11_open] at h
  obtain ⟨v', he, ho⟩ := h
  exact ⟨⟨v', he, bts_own ho (by simp)⟩, hb2⟩

set_option maxHeartbeats 8000000 in
set_option maxRecDepth 100000 in
theorem awake_any (w : World) (hn : Nib w) (hb : Bru w) : Calls Tryd.prog 13 #[] w fun e w' => e = .returned (.bool true) ∧ Below w.heap.size w w' := by
  have HN := Lib.hid hn; have HBr := Lib.hid hb
  clear hn hb
  have kc := fun (w : World) (C : Array Value) (n c : Nat) => Lib.run_convert_bytes_const (P := Tryd.prog) w 22 5 C n c Tryd.underlying22 Tryd.underlying5
  go_enter Tryd.func13, Tryd.ntmps13
  go_wp2_with fail
  refine (seal_hi w HN.out).mono ?_
  rintro e w1 ⟨⟨g, cap, rfl, hcap, hv1⟩, hb1⟩
  have HB1 := Lib.hid hb1; have HV1 := Lib.hid hv1
  have HN1 := Lib.hid (HN.out.keep hb1)
  clear hb1 hv1
  go_wp2_with fail
  refine (open_zero w1 HN1.out).mono ?_
  rintro e w2 ⟨rfl, hb2⟩
  have HB2 := Lib.hid (HB1.out.trans (hb2.mono HB1.out.size)); have HV2 := Lib.hid (HV1.out.keep hb2)
  have HN2 := Lib.hid (HN1.out.keep hb2)
  clear hb2 HB1 HV1 HN1
  go_wp2_with fail
  refine (open_hi _ w2 HV2.out HN2.out).mono ?_
  rintro e w3 ⟨⟨v3, rfl, hv3⟩, hb3⟩
  have HB3 := Lib.hid (HB2.out.trans (hb3.mono HB2.out.size)); have HV3 := Lib.hid (HV2.out.keep hb3); have HW3 := Lib.hid hv3
  have HN3 := Lib.hid (HN2.out.keep hb3)
  clear hb3 HB2 HV2 HN2 hv3
  go_wp2_with fail
  have HB4 := Lib.hid ((Below.refl w3.heap.size w3).alloc (Nat.le_refl _) (.cells #[.int .u8 49, .int .u8 50, .int .u8 51, .int .u8 52, .int .u8 53, .int .u8 54, .int .u8 55, .int .u8 56, .int .u8 57] 5 (9, 10)))
  have HD4 := Lib.hid (bts_new w3 [49, 50, 51, 52, 53, 54, 55, 56, 57] (by simp) (by simp) #[.int .u8 49, .int .u8 50, .int .u8 51, .int .u8 52, .int .u8 53, .int .u8 54, .int .u8 55, .int .u8 56, .int .u8 57] rfl (9, 10))
  have HNw := Lib.hid (HN3.out.keep HB4.out)
  have HVw := Lib.hid (HV3.out.keep HB4.out); have HWw := Lib.hid (HW3.out.keep HB4.out)
  have HBb := Lib.hid (HB3.out.trans (HB4.out.mono HB3.out.size))
  clear HN3 HV3 HW3 HB3 HB4
  generalize w3.alloc (.cells #[.int .u8 49, .int .u8 50, .int .u8 51, .int .u8 52, .int .u8 53, .int .u8 54, .int .u8 55, .int .u8 56, .int .u8 57] 5 (9, 10)) = w4 at HD4 HNw HVw HWw HBb ⊢
  refine (Sum_any _ [49, 50, 51, 52, 53, 54, 55, 56, 57] w4 HD4.out.1 (by simp) HNw.out).mono ?_
  rw [sum_at]
  rintro e w' ⟨rfl, rfl⟩
  have hcut : Bts w4 (.slice (some ⟨g, 0, none⟩) 7 cap) (S11.take 7) := by
    refine ⟨?_, fun n hn => S11_lt n (List.mem_of_mem_take hn), fun n c e => (by cases e), fun a n c e => (by cases e; omega)⟩
    have h := HVw.out.1
    obtain ⟨_, a', c', ee, hc⟩ := id h
    have := SlI.cells h
    refine ⟨by simp [S11_len], some ⟨g, 0, none⟩, cap, by simp [S11_len], fun _ => ⟨g, 0, rfl, fun j hj => ?_⟩⟩
    have hj' : j < 7 := by simp [S11_len] at hj; omega
    rw [this j (by omega)]
    simp [List.getD, hj']
  have hc7 := conv_of hcut { data := #[167, 7, 2, 0, 0, 104, 105] } (by decide +kernel)
  have hc2 := conv_of HWw.out { data := #[104, 105] } (by decide +kernel)
  have hcapI : (7 : Int) ≤ cap := by omega
  clear HVw HWw HD4 hcut
  go_wp2_with fail
  clear hc7 hc2
  have HB5 := Lib.hid ((Below.refl w4.heap.size w4).alloc (Nat.le_refl _) (.cells #[.int .u8 49, .int .u8 50, .int .u8 51, .int .u8 52, .int .u8 53] 5 (5, 6)))
  have HD5 := Lib.hid (bts_new w4 [49, 50, 51, 52, 53] (by simp) (by simp) #[.int .u8 49, .int .u8 50, .int .u8 51, .int .u8 52, .int .u8 53] rfl (5, 6))
  have HN5 := Lib.hid (HNw.out.keep HB5.out)
  have HE5 := Lib.hid (HBb.out.trans (HB5.out.mono HBb.out.size))
  clear HNw HBb HB5
  generalize w4.alloc (.cells #[.int .u8 49, .int .u8 50, .int .u8 51, .int .u8 52, .int .u8 53] 5 (5, 6)) = w5 at HD5 HN5 HE5 ⊢
  refine (Sum_any _ [49, 50, 51, 52, 53] w5 HD5.out.1 (by simp) HN5.out).mono ?_
  have HC5 := Lib.hid (crc_lt [49, 50, 51, 52, 53])
  have HJ := Lib.hid join_at
  generalize crc [49, 50, 51, 52, 53] = c5 at HC5 HJ ⊢
  rintro e w' ⟨rfl, rfl⟩
  clear HD5
  go_wp2_with fail
  have HB6 := Lib.hid ((Below.refl w5.heap.size w5).alloc (Nat.le_refl _) (.cells #[.int .u8 54, .int .u8 55, .int .u8 56, .int .u8 57] 5 (4, 5)))
  have HD6 := Lib.hid (bts_new w5 [54, 55, 56, 57] (by simp) (by simp) #[.int .u8 54, .int .u8 55, .int .u8 56, .int .u8 57] rfl (4, 5))
  have HN6 := Lib.hid (HN5.out.keep HB6.out)
  have HE6 := Lib.hid (HE5.out.trans (HB6.out.mono HE5.out.size))
  clear HN5 HE5 HB6
  generalize w5.alloc (.cells #[.int .u8 54, .int .u8 55, .int .u8 56, .int .u8 57] 5 (4, 5)) = w6 at HD6 HN6 HE6 ⊢
  refine (Sum_any _ [54, 55, 56, 57] w6 HD6.out.1 (by simp) HN6.out).mono ?_
  have HC6 := Lib.hid (crc_lt [54, 55, 56, 57])
  generalize crc [54, 55, 56, 57] = c6 at HC6 HJ ⊢
  rintro e w' ⟨rfl, rfl⟩
  clear HD6
  go_wp2_with fail
  have HJn := Join_four c5 c6 HC5.out HC6.out w6 HN6.out (HBr.out.keep HE6.out)
  rw [HJ.out] at HJn
  refine HJn.mono ?_
  clear HJn
  rintro e w7 ⟨rfl, hb7⟩
  have HB7 := Lib.hid (HE6.out.trans (hb7.mono HE6.out.size))
  clear hb7
  go_wp2
  go_ret
  exact ⟨rfl, HB7.out⟩

end Go.Proofs.YtkjenddmkmlbeaaDoor.frame
