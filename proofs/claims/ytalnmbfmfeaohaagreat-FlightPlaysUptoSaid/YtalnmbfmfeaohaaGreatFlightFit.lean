/- Whether a flight is one: the program's Fit and the document's. -/
import Derived.Test.YtalnmbfmfeaohaaGreatRows
import Derived.Test.YtalnmbfmfeaohaaGreatFlightOrd
import Derived.Test.YtalnmbfmfeaohaaGreatFlightLib
import Derived.Shelf.SlSortCmp.QuietGrown
namespace Go.Proofs.YtalnmbfmfeaohaaGreat.flight
open Go.RowKit
open Go.Proofs.YtalnmbfmfeaohaaGreat.kit Go.Proofs.YtalnmbfmfeaohaaGreat.own
set_option linter.unusedVariables false

/-- The numbers of frames rise, none above next. -/
def rise (next : Int) : Int → List Frm → Bool
  | _, [] => true
  | last, x :: r => decide (last < x.num) && (decide (x.num ≤ next) && rise next x.num r)
/-- Ways rise. -/
def wrise : Option Wy → List Wy → Bool
  | _, [] => true
  | p, x :: r => !(x.1 == x.2) && ((match p with | none => true | some q => ltW q x) && wrise (some x) r)
theorem wrise_cons (p : Option Wy) (x : Wy) (r : List Wy) : wrise p (x :: r) = (!(x.1 == x.2) && ((match p with | none => true | some q => ltW q x) && wrise (some x) r)) := by cases p <;> rfl
def Flt.fit (f : Flt) : Bool := decide (0 ≤ f.next) && (decide (f.next ≤ 4611686018427387904) && (decide (f.list.length ≤ 65536) && (rise f.next 0 f.list && wrise none f.cut)))

set_option maxHeartbeats 4000000 in
set_option maxRecDepth 100000 in
theorem numbersRise_any (v : Value) (xs : List Frm) (next : Int) (w : World) (h : Sl fc 4 w v xs) :
    Calls Tryz.prog 28 #[v, .int .i64 next] w fun e w' => e = .returned (.bool (rise next 0 xs)) ∧ Below w.heap.size w w' := by
  obtain ⟨hl, a, cap, rfl, -, -⟩ := id h
  have HS := Lib.hid h
  obtain ⟨L, hL⟩ : ∃ L, xs.length = L := ⟨_, rfl⟩
  have HL := Lib.hid hL
  rw [hL] at hl HS ⊢
  clear h hL
  go_enter Tryz.func28, Tryz.ntmps28
  go_wp2
  go_loopw [5, 10] (fun l i wr => ∃ (k : Nat) (last : Int), k ≤ L ∧ i = .int .i64 k ∧ l = .int .i64 last ∧ rise next last (xs.drop k) = rise next 0 xs ∧ Below w.heap.size w wr) (fun _ i _ => L - (intOf i).toNat)
  case atStart => exact ⟨0, 0, by omega, rfl, rfl, rfl, Below.refl _ _⟩
  case round =>
    obtain ⟨k, last, hk, rfl, rfl, hr, hb⟩ := hrel
    have HB := Lib.hid hb; have HR := Lib.hid hr
    clear hb hr
    by_cases hlt : k < L
    · have hlt' : (k : Int) < L := by omega
      have hi : k < xs.length := by rw [HL.out]; exact hlt
      have hs2 : Sl fc 4 wr (.slice a L cap) xs := HS.out.keep HB.out
      obtain ⟨_, a', cap', he, -, hcell⟩ := hs2
      cases he
      obtain ⟨b, off, rfl, hbl, hcell⟩ := hcell (by omega)
      obtain ⟨c1, c2, c3, c4⟩ := fcells_at (hcell k hi)
      clear hcell hbl
      have hd : xs.drop k = xs[k] :: xs.drop (k + 1) := List.drop_eq_getElem_cons hi
      obtain ⟨x, hx⟩ : ∃ x, xs[k] = x := ⟨_, rfl⟩
      rw [hx] at c1 c2 c3 c4 hd
      obtain ⟨n, s, d, bo⟩ := x
      simp only at c1 c2 c3 c4
      have HD := Lib.hid hd
      clear hd hx
      have HBn := Lib.hid (HB.out.alloc (HB.out.size) (.cells #[.int .i64 n, .int .i64 s, .int .i64 d, .string bo] 38))
      by_cases h1 : n ≤ last
      · go_wp2
        go_ret
        refine ⟨?_, HBn.out⟩
        have := HR.out
        rw [HD.out, rise, decide_eq_false (show ¬ last < (⟨n, s, d, bo⟩ : Frm).num by show ¬ last < n; omega)] at this
        rw [← this]; rfl
      · by_cases h2 : n > next
        · go_wp2
          go_ret
          refine ⟨?_, HBn.out⟩
          have := HR.out
          rw [HD.out, rise, decide_eq_false (show ¬ (⟨n, s, d, bo⟩ : Frm).num ≤ next by show ¬ n ≤ next; omega)] at this
          rw [← this]; simp
        · go_wp2
          go_roundw
          case rel => 
            refine ⟨k + 1, n, by omega, by go_num, rfl, ?_, HBn.out⟩
            have := HR.out
            rw [HD.out, rise, decide_eq_true (show last < (⟨n, s, d, bo⟩ : Frm).num by show last < n; omega), decide_eq_true (show (⟨n, s, d, bo⟩ : Frm).num ≤ next by show n ≤ next; omega)] at this
            simpa using this
          case measure => simp [intOf]; omega
    · obtain rfl : k = L := by omega
      go_wp2
      go_ret
      refine ⟨?_, HB.out⟩
      have := HR.out
      rw [← HL.out, List.drop_length] at this
      rw [← this]; rfl

/-- A drawn region's state: two rows of two cells, and a box of two. -/
def WR (b o b2 o2 : Nat) (p q p2 q2 : Int) (W u : World) : Prop :=
  Below W.heap.size W u ∧ u.cell? ⟨b, o, none⟩ = some (.int .i64 p) ∧ u.cell? ⟨b, o + 1, none⟩ = some (.int .i64 q) ∧ u.cell? ⟨b2, o2, none⟩ = some (.int .i64 p2) ∧ u.cell? ⟨b2, o2 + 1, none⟩ = some (.int .i64 q2)
theorem WR.keep {b o b2 o2 : Nat} {p q p2 q2 : Int} {W u v : World} (h : WR b o b2 o2 p q p2 q2 W u) (hb : Below u.heap.size u v) : WR b o b2 o2 p q p2 q2 W v := by
  obtain ⟨h0, h1, h2, h3, h4⟩ := h
  exact ⟨h0.trans (hb.mono h0.size), (hb.cell (p := ⟨b, _, none⟩) (cell_lt h1)).trans h1, (hb.cell (p := ⟨b, _, none⟩) (cell_lt h2)).trans h2, (hb.cell (p := ⟨b2, _, none⟩) (cell_lt h3)).trans h3, (hb.cell (p := ⟨b2, _, none⟩) (cell_lt h4)).trans h4⟩

set_option maxHeartbeats 8000000 in
set_option maxRecDepth 100000 in
theorem waysRise_any (v : Value) (xs : List Wy) (w : World) (h : Sl wc 2 w v xs) :
    Calls Tryz.prog 29 #[v] w fun e w' => e = .returned (.bool (wrise none xs)) ∧ Below w.heap.size w w' := by
  obtain ⟨hl, a, cap, rfl, -, -⟩ := id h
  have HS := Lib.hid h
  obtain ⟨L, hL⟩ : ∃ L, xs.length = L := ⟨_, rfl⟩
  have HL := Lib.hid hL
  rw [hL] at hl HS ⊢
  clear h hL
  have mixed : Tryz.prog.follows .mixedOrders = true := by kernel_rfl
  go_enter Tryz.func29, Tryz.ntmps29
  go_wp2
  go_loopw [7] (fun i wr => ∃ (k : Nat), k ≤ L ∧ i = .int .i64 k ∧ wrise (if k = 0 then none else xs[k - 1]?) (xs.drop k) = wrise none xs ∧ Below w.heap.size w wr) (fun i _ => L - (intOf i).toNat)
  case atStart => exact ⟨0, by omega, rfl, rfl, Below.refl _ _⟩
  case round =>
    obtain ⟨k, hk, rfl, hr, hb⟩ := hrel
    have HB := Lib.hid hb; have HR := Lib.hid hr
    clear hb hr
    by_cases hlt : k < L
    · have hlt' : (k : Int) < L := by omega
      have hi : k < xs.length := by rw [HL.out]; exact hlt
      have hs2 : Sl wc 2 wr (.slice a L cap) xs := HS.out.keep HB.out
      obtain ⟨_, a', cap', he, -, hcell⟩ := hs2
      cases he
      obtain ⟨b, off, rfl, hbl, hcell⟩ := hcell (by omega)
      have HC := Lib.hid hcell
      obtain ⟨c1, c2⟩ := wcells_at (hcell k hi)
      clear hcell
      have hd : xs.drop k = xs[k] :: xs.drop (k + 1) := List.drop_eq_getElem_cons hi
      have hq : xs[k]? = some xs[k] := by simp [hi]
      obtain ⟨x, hx⟩ : ∃ x, xs[k] = x := ⟨_, rfl⟩
      rw [hx] at c1 c2 hd hq
      obtain ⟨p, q⟩ := x
      simp only at c1 c2
      have HD := Lib.hid hd; have HQ := Lib.hid hq; have Hlt := Lib.hid hbl
      clear hd hx hq hbl
      have HBn := Lib.hid (HB.out.alloc (HB.out.size) (.cells #[.int .i64 p, .int .i64 q] 40))
      have hbx : World.cell? (wr.alloc (.cells #[.int .i64 p, .int .i64 q] 40)) ⟨wr.heap.size, 0, none⟩ = some (.int .i64 p) ∧ World.cell? (wr.alloc (.cells #[.int .i64 p, .int .i64 q] 40)) ⟨wr.heap.size, 1, none⟩ = some (.int .i64 q) := by
        constructor
        · rw [World.cell?_alloc_at _ _ _ _ rfl]; rfl
        · rw [World.cell?_alloc_at _ _ _ _ rfl]; rfl
      have hbA : Below wr.heap.size wr (wr.alloc (.cells #[.int .i64 p, .int .i64 q] 40)) := (Below.refl _ _).alloc (Nat.le_refl _) _
      clear hcell
      by_cases h1 : p = q
      · have hR : wrise none xs = false := by
          have := HR.out
          rw [HD.out, wrise_cons] at this
          rw [← this]; simp [h1]
        have HRf := Lib.hid hR
        subst h1
        clear hR
        go_upto_region 4 with fail
        generalize (wr.alloc (.cells #[.int .i64 p, .int .i64 p] 40)) = W at HBn hbx hbA ⊢
        obtain ⟨M, hM⟩ : ∃ M, wr.heap.size = M := ⟨_, rfl⟩
        rw [hM] at hbx ⊢
        obtain ⟨b1, b2⟩ := hbx
        clear c1 c2 hbA hM
        go_big_region_o
        have HBd := Lib.hid (HBn.out.drewN' 1)
        clear b1 b2
        go_wp2
        go_ret
        exact ⟨by rw [HRf.out]; rfl, HBd.out⟩
      · have hpq : True → (p == q) = false := fun _ => by simp [h1]
        have H1 := Lib.hid h1
        clear h1
        cases k with
        | zero => 
          have hR : wrise none xs = wrise (some (p, q)) (xs.drop 1) := by
            have := HR.out
            rw [HD.out, wrise_cons] at this
            rw [← this]; simp [H1.out]
          have HRn := Lib.hid hR
          clear hR
          simp only [Nat.zero_mul, Nat.add_zero] at c1 c2
          go_upto_region 4 with fail
          generalize (wr.alloc (.cells #[.int .i64 p, .int .i64 q] 40)) = W at HBn hbx hbA ⊢
          obtain ⟨M, hM⟩ : ∃ M, wr.heap.size = M := ⟨_, rfl⟩
          rw [hM] at hbx ⊢
          obtain ⟨b1, b2⟩ := hbx
          clear c1 c2 hbA hM
          go_big_region_o
          have HBd := Lib.hid (HBn.out.drewN' 1)
          clear b1 b2
          go_wp2
          go_roundw
          case rel => exact ⟨1, by omega, rfl, by rw [HRn.out, if_neg (by omega)]; simp only [Nat.sub_self]; rw [HQ.out], HBd.out⟩
          case measure => simp [intOf]; omega
        | succ m =>
          have hcm := HC.out m (by omega)
          have hqm : xs[m]? = some xs[m] := by simp [show m < xs.length by omega]
          obtain ⟨c3, c4⟩ := wcells_at hcm
          obtain ⟨y, hy⟩ : ∃ y, xs[m]'(by omega) = y := ⟨_, rfl⟩
          rw [hy] at c3 c4 hqm
          obtain ⟨p2, q2⟩ := y
          simp only at c3 c4
          have hR : (ltW (p2, q2) (p, q) && wrise (some (p, q)) (xs.drop (m + 1 + 1))) = wrise none xs := by
            have := HR.out
            rw [HD.out, wrise_cons, if_neg (by omega), show m + 1 - 1 = m by omega, hqm] at this
            rw [← this]; simp [H1.out]
          have HRn := Lib.hid hR
          have H34 := Lib.hid (show (wr.alloc (.cells #[.int .i64 p, .int .i64 q] 40)).cell? ⟨b, off + m * 2, none⟩ = some (.int .i64 p2) ∧ (wr.alloc (.cells #[.int .i64 p, .int .i64 q] 40)).cell? ⟨b, off + m * 2 + 1, none⟩ = some (.int .i64 q2) from
            ⟨(hbA.cell (p := ⟨b, _, none⟩) Hlt.out).trans c3, (hbA.cell (p := ⟨b, _, none⟩) Hlt.out).trans c4⟩)
          clear hR hcm hqm hy c3 c4
          have hwp : IntKind.i64.wrap (m : Int) = (m : Int) := by rw [IntKind.wrap_i64]; omega
          have hm0 : (0 : Int) ≤ m := by omega
          have hm1 : (m : Int) < xs.length := by omega
          go_upto_region 4 with fail
          generalize (wr.alloc (.cells #[.int .i64 p, .int .i64 q] 40)) = W at HBn hbx hbA H34 ⊢
          obtain ⟨M, hM⟩ : ∃ M, wr.heap.size = M := ⟨_, rfl⟩
          rw [hM] at hbx ⊢
          have hMl := cell_lt hbx.1
          have hbl := cell_lt H34.out.1
          have b1 := cell_grown (a := ⟨M, 0, none⟩) hMl hbx.1
          have b2 := cell_grown (a := ⟨M, 1, none⟩) hMl hbx.2
          have b3 := cell_grown (a := ⟨b, off + m * 2, none⟩) hbl H34.out.1
          have b4 := cell_grown (a := ⟨b, off + m * 2 + 1, none⟩) hbl H34.out.2
          have hord := fun n os => order_any (p2, q2) (p, q) (Sort.grow (W.drewN n) os)
          simp only at hord
          obtain ⟨r, hr⟩ : ∃ r, ordW (p2, q2) (p, q) = r := ⟨_, rfl⟩
          rw [hr] at hord
          have HRr := Lib.hid hr
          clear c1 c2 hbA hM hbx hMl hbl hr
          by_cases hneg : r < 0
          · have hrn : True → decide (0 ≤ r) = false := fun _ => by simp; omega
            go_quiet_grown (first | (go_at_call 49; exact Calls.grown_of (hord _ _)))
            have HBd := Lib.hid (HBn.out.trans ((grow_below (w := W) ⟨nq, osq, rfl⟩).mono HBn.out.size))
            simp only
            generalize (Sort.grow (W.drewN nq) osq) = W2 at HBd ⊢
            clear b1 b2 b3 b4 hord
            go_wp2
            go_roundw
            case rel => 
              refine ⟨m + 1 + 1, by omega, by go_num, ?_, HBd.out⟩
              rw [if_neg (by omega), show m + 1 + 1 - 1 = m + 1 by omega, HQ.out, ← HRn.out, show ltW (p2, q2) (p, q) = true by rw [← ordW_lt, HRr.out]; simp [hneg], Bool.true_and]
            case measure => simp [intOf]; omega
          · have hrn : 0 ≤ r := by omega
            go_quiet_grown (first | (go_at_call 49; exact Calls.grown_of (hord _ _)))
            have HBd := Lib.hid (HBn.out.trans ((grow_below (w := W) ⟨nq, osq, rfl⟩).mono HBn.out.size))
            simp only
            generalize (Sort.grow (W.drewN nq) osq) = W2 at HBd ⊢
            clear b1 b2 b3 b4 hord
            go_wp2
            go_ret
            refine ⟨?_, HBd.out⟩
            rw [← HRn.out, show ltW (p2, q2) (p, q) = false by rw [← ordW_lt, HRr.out]; simp; omega]
            rfl
    · obtain rfl : k = L := by omega
      go_wp2
      go_ret
      refine ⟨?_, HB.out⟩
      have := HR.out
      rw [← HL.out, List.drop_length] at this
      rw [← this]; rfl

end Go.Proofs.YtalnmbfmfeaohaaGreat.flight
