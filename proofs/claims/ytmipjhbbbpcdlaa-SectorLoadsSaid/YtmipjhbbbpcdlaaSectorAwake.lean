/- Chapter 5's first example: the law's own 'awake', which is true. -/
import Derived.Test.YtmipjhbbbpcdlaaRows
import Derived.Test.YtmipjhbbbpcdlaaSectorNew
import Derived.Lib.SlBytesConst
namespace Go.Proofs.Ytmipjhbbbpcdlaa.sector
open Go.RowKit
open Go.Proofs.Ytmipjhbbbpcdlaa.kit Go.Proofs.Ytmipjhbbbpcdlaa.own
set_option linter.unusedVariables false

theorem New_lit (w : World) (z : Int) (n : Nat) (hz : z = (n : Int)) (h1 : 1 ≤ n) (hn : n ≤ 4096) : Calls Try.prog 8 #[.int .i64 z] w (NewAt w n) := by
  subst hz; exact New_ok w n h1 hn
/-- A filled slice is written. -/
theorem write_filled (W W2 : World) (Z : Nat → Prop) (d : Nat) (m : Dev) (hd : DevAt W Z d m) (hp : m.power = true) (hc : ∀ p, m.cut ≠ some (0, p)) (k : Nat) (z : Int) (hz : z = (k : Int)) (hk : k < m.n) (hws : m.ws + 1 < 4611686018427387904)
    (ns : List Nat) (h8 : ∀ n ∈ ns, n < 256) (g : Nat) (hg : W2.heap[g]? = some (.cells (ba (fill64 ns)) 72 (0, 0))) (hW : W.heap.size ≤ g) (hb : Below W.heap.size W W2) :
    Calls Try.prog 17 #[.pointer (some ⟨d, 0, none⟩), .int .i64 z, .slice (some ⟨g, 0, none⟩) 64 64] W2 (Does W2 Z d (wrote m k (fill64 ns)) (.returned (.int .i64 0))) := by
  subst hz
  have h := sl_of_range (cap := 64) (range_of_block (cs := bv (fill64 ns)) hg) (by rw [fill64_len]; omega)
  rw [fill64_len] at h
  refine Write_ok W2 Z d m (hd.keep hb) hp k hk _ 64 (fill64 ns) (fill64_len ns) (fill64_lt h8) hc hws h ?_
  intro b off e hZ
  cases e
  have := hd.lt _ hZ
  omega
theorem lit_filled (W : World) (c : Nat) (fz : Nat × Nat) : Calls Try.prog 18 #[.slice (some ⟨W.heap.size, 0, none⟩) 1 1] (W.alloc (.cells #[.int .u8 (c : Int)] 5 fz)) (Filled W [c]) := by
  have hb : Below W.heap.size W (W.alloc (.cells #[.int .u8 (c : Int)] 5 fz)) := (Below.refl _ W).alloc (Nat.le_refl _) _
  refine (filled_any _ [c] _ ?_).mono ?_
  · refine ⟨by simp, _, 1, rfl, fun _ => ⟨W.heap.size, 0, rfl, fun j hj => ?_⟩⟩
    obtain rfl : j = 0 := by simp at hj; omega
    have h := alloc_at W (.cells #[.int .u8 (c : Int)] 5 fz)
    simp only [World.cell?, h]
    rfl
  · rintro e w' ⟨g, he, hg, hs, hb2⟩
    have := hb.size
    exact ⟨g, he, hg, by omega, hb.trans (hb2.mono hb.size)⟩

theorem more_ge {Z : Nat → Prop} {B : Nat} {w w' : World} (h : ∀ k, Z k → B ≤ k) (hB : B ≤ w.heap.size) : ∀ k, More Z w w' k → B ≤ k := fun k hk => hk.elim (h k) (fun hh => Nat.le_trans hB hh.1)

def awk1 : Dev := wrote (fresh 4) 2 (fill64 [97])
def awk2 : Dev := wrote awk1 0 (fill64 [98])
def awk3 : Dev := wrote awk2 2 (fill64 [99])
theorem awk_keys : keys awk3.cache = [2, 0] := by decide +kernel
theorem awk_look : (look awk3 2).getD 0 0 = 99 := by decide +kernel
theorem awk_len : (lost awk3 1).laid.length = 256 := by decide +kernel
theorem awk_c : (lost awk3 1).laid.getD 128 0 = 99 := by decide +kernel
theorem awk_z : (lost awk3 1).laid.getD 0 0 = 0 := by decide +kernel
theorem look_len {m : Dev} (h : m.Ok) {k : Nat} (hk : k < m.n) : (look m k).length = 64 := by
  unfold look
  split
  · rename_i hj
    exact (h.cache _ (nth_mem hj)).2.1
  · exact sectorOf_len h.laid hk

/-- A slice of the call's own with something in it: where it lies, and its cells. -/
theorem own_cells {w : World} {B e : Nat} {k : IntKind} {v : Value} {ns : List Nat} (h : OwnI w B e k v ns) (n : Nat) (hn : ns.length = n) (h0 : 0 < n) : ∃ g cap, v = .slice (some ⟨g, 0, none⟩) n cap ∧ B ≤ g ∧ ∀ j, j < n → w.cell? ⟨g, j, none⟩ = some (.int k (ns.getD j 0 : Nat)) := by
  subst hn
  obtain ⟨g, cap, rfl⟩ := own_form h ns.length rfl h0
  refine ⟨g, cap, rfl, (h.lt g rfl).1, fun j hj => ?_⟩
  have := SlI.cell h.read j hj
  rw [Nat.zero_add] at this
  exact this

set_option maxHeartbeats 4000000 in
set_option maxRecDepth 100000 in
theorem awake_any (w : World) : Calls Try.prog 10 #[] w fun e w' => e = .returned (.bool true) ∧ Below w.heap.size w w' := by
  have kc := fun (w : World) (C : Array Value) (n c : Nat) => Lib.run_convert_bytes_const (P := Try.prog) w 28 5 C n c Try.underlying28 Try.underlying5
  go_enter Try.func10, Try.ntmps10
  go_wp2_with fail
  refine (New_lit w 4 4 rfl (by omega) (by omega)).mono ?_
  rintro e w1 ⟨d, rfl, hd1, hb1⟩
  have HDZ1 := Lib.hid hd1; have HBw1 := Lib.hid hb1
  have HZZ1 := Lib.hid (show ∀ k, Fresh w w1 k → w.heap.size ≤ k from fun k hk => hk.elim False.elim (·.1))
  clear hd1 hb1
  generalize Fresh w w1 = Z1 at HDZ1 HZZ1
  go_wp2_with fail
  refine (New_bad w1 0 (by omega)).mono ?_
  rintro e w1' ⟨rfl, rfl⟩
  go_wp2_with fail
  refine (lit_filled w1 97 _).mono ?_
  rintro e w2 ⟨g2, rfl, hg2, hs2, hb2⟩
  have HW := Lib.hid (write_filled w1 w2 Z1 d (fresh 4) HDZ1.out rfl (by intro p h; cases h) 2 2 rfl (by decide) (by decide) [97] (by simp) g2 hg2 hs2 hb2)
  have HBw2 := Lib.hid (HBw1.out.trans (hb2.mono HBw1.out.size))
  clear hg2 hs2 hb2 HBw1
  go_wp2_with fail
  refine HW.out.mono ?_
  rintro e w3 ⟨rfl, hd, ht⟩
  have HDZ2 := Lib.hid (show DevAt w3 (More Z1 w2 w3) d awk1 from hd)
  have HBw3 := Lib.hid (Turn.below HBw2.out ht HBw2.out.size HZZ1.out)
  have HZZ2 := Lib.hid (more_ge (w := w2) (w' := w3) HZZ1.out HBw2.out.size)
  clear hd ht HW HBw2 HDZ1 HZZ1
  generalize More Z1 w2 w3 = Z2 at HDZ2 HZZ2
  go_wp2_with fail
  refine (lit_filled w3 98 _).mono ?_
  rintro e w4 ⟨g4, rfl, hg2, hs2, hb2⟩
  have HW := Lib.hid (write_filled w3 w4 Z2 d awk1 HDZ2.out rfl (by intro p h; cases h) 0 0 rfl (by decide) (by decide) [98] (by simp) g4 hg2 hs2 hb2)
  have HBw4 := Lib.hid (HBw3.out.trans (hb2.mono HBw3.out.size))
  clear hg2 hs2 hb2 HBw3
  go_wp2_with fail
  refine HW.out.mono ?_
  rintro e w5 ⟨rfl, hd, ht⟩
  have HDZ3 := Lib.hid (show DevAt w5 (More Z2 w4 w5) d awk2 from hd)
  have HBw5 := Lib.hid (Turn.below HBw4.out ht HBw4.out.size HZZ2.out)
  have HZZ3 := Lib.hid (more_ge (w := w4) (w' := w5) HZZ2.out HBw4.out.size)
  clear hd ht HW HBw4 HDZ2 HZZ2
  generalize More Z2 w4 w5 = Z3 at HDZ3 HZZ3
  go_wp2_with fail
  refine (lit_filled w5 99 _).mono ?_
  rintro e w6 ⟨g6, rfl, hg2, hs2, hb2⟩
  have HW := Lib.hid (write_filled w5 w6 Z3 d awk2 HDZ3.out rfl (by intro p h; cases h) 2 2 rfl (by decide) (by decide) [99] (by simp) g6 hg2 hs2 hb2)
  have HBw6 := Lib.hid (HBw5.out.trans (hb2.mono HBw5.out.size))
  clear hg2 hs2 hb2 HBw5
  go_wp2_with fail
  refine HW.out.mono ?_
  rintro e w7 ⟨rfl, hd, ht⟩
  have HDZ4 := Lib.hid (show DevAt w7 (More Z3 w6 w7) d awk3 from hd)
  have HBw7 := Lib.hid (Turn.below HBw6.out ht HBw6.out.size HZZ3.out)
  have HZZ4 := Lib.hid (more_ge (w := w6) (w' := w7) HZZ3.out HBw6.out.size)
  clear hd ht HW HBw6 HDZ3 HZZ3
  generalize More Z3 w6 w7 = Z4 at HDZ4 HZZ4
  have HR := Lib.hid (Read_ok w7 Z4 d awk3 HDZ4.out rfl 2 (by decide))
  rw [show ((2 : Nat) : Int) = 2 from rfl] at HR
  go_wp2_with fail
  refine HR.out.mono ?_
  rintro e w8 ⟨gx, rfl, hx, hgx, hb8⟩
  have hlk := look_len HDZ4.out.1 (k := 2) (by decide)
  have HX := Lib.hid (show w8.cell? ⟨gx, 0, none⟩ = some (.int .u8 99) by
    have := range_of_block (cs := bv (look awk3 2)) hx 0 _ (bv_at _ 0 (by rw [hlk]; omega))
    rw [awk_look] at this
    exact this)
  have HGx := Lib.hid (show ¬ Z4 gx from fun h => by have := HDZ4.out.lt _ h; omega)
  have HGl := Lib.hid (show gx < w8.heap.size from (Array.getElem?_eq_some_iff.1 hx).1)
  have HD8 := Lib.hid (HDZ4.out.keep hb8)
  have HBw8 := Lib.hid (HBw7.out.trans (hb8.mono HBw7.out.size))
  clear hx hgx hb8 hlk HR HDZ4 HBw7
  go_wp2_with fail
  refine (Dirty_any w8 Z4 d awk3 HD8.out).mono ?_
  rintro e w9 ⟨⟨vl, rfl, hol⟩, hb9⟩
  obtain ⟨gl, cl, rfl, hgl, hcl⟩ := own_cells hol 2 (by rw [awk_keys]; rfl) (by omega)
  have HLc := Lib.hid (show w9.cell? ⟨gl, 0, none⟩ = some (.int .i64 2) by
    have := hcl 0 (by omega)
    rw [awk_keys] at this
    exact this)
  have HLn := Lib.hid (show ¬ Z4 gl from fun h => by have := HD8.out.lt _ h; omega)
  have HLl := Lib.hid (show gl < w9.heap.size from cell_lt (hcl 0 (by omega)))
  have HX9 := Lib.hid ((hb9.cell (p := ⟨gx, 0, none⟩) HGl.out).trans HX.out)
  have HG9 := Lib.hid (Nat.lt_of_lt_of_le HGl.out hb9.size)
  have HD9 := Lib.hid (HD8.out.keep hb9)
  have HBw9 := Lib.hid (HBw8.out.trans (hb9.mono HBw8.out.size))
  clear hol hb9 hgl hcl HD8 HBw8 HX HGl
  have HLo := Lib.hid (Lose_on w9 Z4 d awk3 HD9.out rfl 1 (by decide) 1 rfl)
  go_wp2_with fail
  refine HLo.out.mono ?_
  rintro e w10 ⟨rfl, hd10, ht10⟩
  have HD10 := Lib.hid hd10
  have HX10 := Lib.hid ((World.cell?_of_block (a := ⟨gx, 0, none⟩) (ht10.block gx HG9.out HGx.out)).trans HX9.out)
  have HL10 := Lib.hid ((World.cell?_of_block (a := ⟨gl, 0, none⟩) (ht10.block gl HLl.out HLn.out)).trans HLc.out)
  have HG10 := Lib.hid (Nat.lt_of_lt_of_le HG9.out ht10.size)
  have HLl10 := Lib.hid (Nat.lt_of_lt_of_le HLl.out ht10.size)
  have HBw10 := Lib.hid (Turn.below HBw9.out ht10 HBw9.out.size HZZ4.out)
  clear hd10 ht10 HLo HD9 HBw9 HX9 HLc HG9 HLl
  go_wp2_with fail
  refine (Image_any w10 Z4 d (lost awk3 1) HD10.out).mono ?_
  rintro e w11 ⟨⟨vi, rfl, hoi⟩, hb11⟩
  obtain ⟨gi, ci, rfl, hgi, hci⟩ := own_cells hoi 256 awk_len (by omega)
  have i128 := hci 128 (by omega)
  have i0 := hci 0 (by omega)
  rw [awk_c] at i128
  rw [awk_z] at i0
  have x11 := (hb11.cell (p := ⟨gx, 0, none⟩) HG10.out).trans HX10.out
  have l11 := (hb11.cell (p := ⟨gl, 0, none⟩) HLl10.out).trans HL10.out
  have HDd := Lib.hid (Dead_off w11 Z4 d (lost awk3 1) (HD10.out.keep hb11) rfl)
  have HBw11 := Lib.hid (HBw10.out.trans (hb11.mono HBw10.out.size))
  clear hoi hb11 hgi hci HX10 HL10 HD10 HBw10
  go_wp2_with fail
  refine HDd.out.mono ?_
  rintro e w' ⟨rfl, rfl⟩
  go_wp2
  go_ret
  exact ⟨rfl, HBw11.out⟩

end Go.Proofs.Ytmipjhbbbpcdlaa.sector
