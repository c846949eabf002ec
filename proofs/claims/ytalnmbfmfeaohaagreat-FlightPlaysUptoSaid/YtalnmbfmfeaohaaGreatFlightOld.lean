/- Oldest; Double. -/
import Derived.Test.YtalnmbfmfeaohaaGreatRows
import Derived.Test.YtalnmbfmfeaohaaGreatFlightFirst
import Derived.Test.YtalnmbfmfeaohaaGreatFlightPut
namespace Go.Proofs.YtalnmbfmfeaohaaGreat.flight
open Go.RowKit
open Go.Proofs.YtalnmbfmfeaohaaGreat.kit Go.Proofs.YtalnmbfmfeaohaaGreat.own
set_option linter.unusedVariables false

/-- The first frame that is meant, as a value's number. -/
def oldE (f : Flt) (to : Int) : Int × Bool := match f.list.find? (fun x => x.dst == to) with | none => (0, false) | some x => (x.num, true)
theorem find_of {p : Frm → Bool} {xs : List Frm} {i : Nat} (hi : i < xs.length) (hp : p xs[i] = true) (hno : ∀ j (hj : j < i), p (xs[j]'(by omega)) = false) : xs.find? p = some xs[i] := by
  rw [List.find?_eq_some_iff_getElem]
  exact ⟨hp, i, hi, rfl, fun j hj => by rw [hno j hj]; rfl⟩
theorem find_none {p : Frm → Bool} {xs : List Frm} (h : ∀ x ∈ xs, p x = false) : xs.find? p = none := by
  rw [List.find?_eq_none]
  intro x hx
  rw [h x hx]; simp

/-- What a call of 'first' hands back, as one plain value. -/
structure FirstV (p : Frm → Bool) (xs : List Frm) (i : Int) (x : Frm) (b : Bool) : Prop where
  no : b = false → xs.find? p = none ∧ i = 0 ∧ x = zeroFr
  yes : b = true → ∃ (k : Nat) (h : k < xs.length), i = k ∧ x = xs[k] ∧ xs.find? p = some x ∧ p x = true ∧ ∀ j (hj : j < k), p (xs[j]'(by omega)) = false
theorem first_v {w : World} {p : Frm → Bool} {xs : List Frm} {e : Ending} {w' : World} (h : FirstS w p xs e w') : ∃ i x b, e = .returned (.tuple #[.int .i64 i, fval x, .bool b]) ∧ FirstV p xs i x b ∧ Below w.heap.size w w' := by
  obtain ⟨hb, (⟨hno, rfl⟩ | ⟨i, hi, hp, hno, rfl⟩)⟩ := h
  · exact ⟨0, zeroFr, false, rfl, ⟨fun _ => ⟨find_none hno, rfl, rfl⟩, fun h => (by cases h)⟩, hb⟩
  · exact ⟨i, xs[i], true, rfl, ⟨fun h => (by cases h), fun _ => ⟨i, hi, rfl, rfl, find_of hi hp hno, hp, hno⟩⟩, hb⟩

theorem thaw_cells {w : World} {b : Nat} {cs : Array Value} {t : TypeId} (h : w.heap[b]? = some (.cells cs t (0, 0))) : w.frozen? ⟨b, 0, none⟩ = false ∧ w.frozen? ⟨b, 1, none⟩ = false ∧ w.frozen? ⟨b, 2, none⟩ = false ∧ w.frozen? ⟨b, 3, none⟩ = false := by
  refine ⟨?_, ?_, ?_, ?_⟩ <;> simp [World.frozen?, h]
theorem cell_set4 (W : World) (A N o : Nat) (h : ¬ N = A) (a b c d : Value) : ((((W.setCell ⟨A, 0, none⟩ a).setCell ⟨A, 1, none⟩ b).setCell ⟨A, 2, none⟩ c).setCell ⟨A, 3, none⟩ d).cell? ⟨N, o, none⟩ = W.cell? ⟨N, o, none⟩ := by
  have e : ((((W.setCell ⟨A, 0, none⟩ a).setCell ⟨A, 1, none⟩ b).setCell ⟨A, 2, none⟩ c).setCell ⟨A, 3, none⟩ d).heap[N]? = W.heap[N]? := by
    rw [heap_setCell_other _ _ _ _ h, heap_setCell_other _ _ _ _ h, heap_setCell_other _ _ _ _ h, heap_setCell_other _ _ _ _ h]
  simp only [World.cell?, e]

theorem set4_at {W : World} {N : Nat} {p q r s : Value} {t : TypeId} (h : W.heap[N]? = some (.cells #[p, q, r, s] t (0, 0))) (a b c d : Value) : ((((W.setCell ⟨N, 0, none⟩ a).setCell ⟨N, 1, none⟩ b).setCell ⟨N, 2, none⟩ c).setCell ⟨N, 3, none⟩ d).heap[N]? = some (.cells #[a, b, c, d] t (0, 0)) := by
  have h1 := heap_setCell_same W N 0 _ _ a h
  have h2 := heap_setCell_same _ N 1 _ _ b h1
  have h3 := heap_setCell_same _ N 2 _ _ c h2
  have h4 := heap_setCell_same _ N 3 _ _ d h3
  simpa using h4
theorem below_set4 {B : Nat} {w W : World} (h : Below B w W) {N : Nat} (hN : B ≤ N) (a b c d : Value) : Below B w ((((W.setCell ⟨N, 0, none⟩ a).setCell ⟨N, 1, none⟩ b).setCell ⟨N, 2, none⟩ c).setCell ⟨N, 3, none⟩ d) :=
  (((h.setCell (p := ⟨N, 0, none⟩) hN a).setCell (p := ⟨N, 1, none⟩) hN b).setCell (p := ⟨N, 2, none⟩) hN c).setCell (p := ⟨N, 3, none⟩) hN d
theorem cell_at0 {W : World} {N : Nat} {p q r s : Value} {t : TypeId} (h : W.heap[N]? = some (.cells #[p, q, r, s] t (0, 0))) : W.cell? ⟨N, 0, none⟩ = some p := by
  simp [World.cell?, h]
theorem oldE_of {f : Flt} {to : Int} {i : Int} {x : Frm} {b : Bool} (h : FirstV (fun x => x.dst == to) f.list i x b) : oldE f to = (x.num, b) := by
  unfold oldE
  cases b with
  | false => obtain ⟨h1, _, rfl⟩ := h.no rfl; rw [h1]; rfl
  | true => obtain ⟨k, hk, _, _, h1, _⟩ := h.yes rfl; rw [h1]

set_option maxHeartbeats 8000000 in
set_option maxRecDepth 100000 in
theorem Oldest_any (v : Value) (f : Flt) (to : Int) (w : World) (h : FlR w v f) (hok : ∀ x ∈ f.list, Frm.Ok x) :
    Calls Tryz.prog 14 #[v, .int .i64 to] w fun e w' => e = .returned (.tuple #[.int .i64 (oldE f to).1, .bool (oldE f to).2]) ∧ Below w.heap.size w w' := by
  obtain ⟨vl, vc, rfl, hl, hc⟩ := h
  have hb := below_new w (.cells #[.int .i64 f.next, vl, vc] 25)
  have HS := Lib.hid (hl.keep hb); have HX := Lib.hid (fbox_new w f.next vl vc); have HB := Lib.hid hb; have HOk := Lib.hid hok
  obtain ⟨n, l, c⟩ := f
  simp only at HS HX HB HOk ⊢
  clear hl hc hb hok
  go_enter Tryz.func14, Tryz.ntmps14
  go_upto_region 1 with fail
  generalize (w.alloc (.cells #[.int .i64 n, vl, vc] 25)) = W at HS HX HB ⊢
  obtain ⟨N, hN⟩ : ∃ N, w.heap.size = N := ⟨_, rfl⟩
  rw [hN] at HX ⊢
  clear hN
  have hd : Below W.heap.size W W.drew := ⟨rfl, rfl, rfl, Nat.le_refl _, fun _ _ => rfl⟩
  have HD := Lib.hid hd
  have HA1 : Hid (∀ o, Below W.heap.size W (W.alloc o).drew) := Lib.hid (fun o => below_drew ((Below.refl _ W).alloc (Nat.le_refl _) o))
  have HNl := Lib.hid HX.out.lt
  have HS0 : Hid (∀ u, Below W.heap.size W u → u.cell? ⟨N, 1, none⟩ = some vl) := Lib.hid (fun u hu => (HX.out.keep hu).cells.2.1)
  have HZ0 : Hid ((W.alloc (.cells (fc zeroFr).toArray 38)).drew.heap[W.heap.size]? = some (.cells (fc zeroFr).toArray 38 (0, 0))) := Lib.hid (alloc_at W _)
  obtain ⟨e1, e2, e3⟩ := HX.out.cells
  have e2' := HS0.out _ HD.out
  clear hd
  go_region_held3 (fun u => u.cell? ⟨N, 1, none⟩ = some vl)
    (first | exact e2' | exact HS0.out _ HD.out | exact HS0.out _ (HA1.out _) | exact HS0.out _ HB3.out | exact HS0.out _ (HB3.out.alloc HB3.out.size _) | exact HS0.out _ HB4.out | exact HS0.out _ (HB4.out.alloc HB4.out.size _) | exact (cell_set4 _ _ _ _ HNA.out _ _ _ _).trans (HS0.out _ HB4.out))
    (first
      | ((go_at_call 38; refine (bound_any to _).mono ?_);
         (rintro e w3 ⟨lb, g, rfl, hm, hb3⟩);
         (have HB3 : Hid (Below W.heap.size W w3) := Lib.hid (by first | exact HD.out.trans (hb3.mono HD.out.size) | exact (HA1.out _).trans (hb3.mono (HA1.out _).size)));
         (first | (have HZ3 : Hid (w3.heap[W.heap.size]? = some (.cells (fc zeroFr).toArray 38 (0, 0))) := Lib.hid ((hb3.block _ (by simp)).trans HZ0.out)) | skip);
         (have HM := Lib.hid hm);
         (have HFa : Hid (∀ u, Below w3.heap.size w3 u → Calls Tryz.prog 34 #[vl, .func (.func g) #[] lb] u (FirstS u (fun x => x.dst == to) l)) := Lib.hid (fun u hu => first_any vl (.func (.func g) #[] lb) l (fun x => x.dst == to) u (HS.out.keep (HB3.out.trans (hu.mono HB3.out.size))) HOk.out (HM.out.keep hu)));
         (clear hm hb3))
      | ((go_at_call 34; first | with_reducible refine (HFa.out w3 (Below.refl _ _)).mono ?_ | with_reducible refine (HFa.out _ (below_new w3 _)).mono ?_);
         (rintro e w4 hf4; obtain ⟨i, x, b, rfl, hv, hb4⟩ := first_v hf4; obtain ⟨xn, xs, xd, xb⟩ := x);
         (have HV := Lib.hid hv);
         (have HB4 : Hid (Below W.heap.size W w4) := Lib.hid (by first | exact HB3.out.trans (hb4.mono HB3.out.size) | exact (HB3.out.alloc HB3.out.size _).trans (hb4.mono (HB3.out.alloc HB3.out.size _).size)));
         (first
           | (have hz4 := (hb4.block _ (Array.getElem?_eq_some_iff.1 HZ3.out).1).trans HZ3.out; have HAb : Hid (W.heap.size ≤ W.heap.size) := Lib.hid (Nat.le_refl _); have HNA : Hid (¬ N = W.heap.size) := Lib.hid (Nat.ne_of_lt HNl.out); obtain ⟨c0, c1, c2, c3⟩ := fcells_at (x := zeroFr) (range_of_cells hz4); obtain ⟨m0, m1, m2, m3⟩ := thaw_cells hz4; simp only [Nat.zero_add] at c0 c1 c2 c3; have HZ4 := Lib.hid hz4; clear hz4)
           | (have hz4 := (hb4.block _ (by simp)).trans (alloc_at w3 (.cells (fc zeroFr).toArray 38)); have HAb : Hid (W.heap.size ≤ w3.heap.size) := Lib.hid HB3.out.size; have HNA : Hid (¬ N = w3.heap.size) := Lib.hid (Nat.ne_of_lt (Nat.lt_of_lt_of_le HNl.out HB3.out.size)); obtain ⟨c0, c1, c2, c3⟩ := fcells_at (x := zeroFr) (range_of_cells hz4); obtain ⟨m0, m1, m2, m3⟩ := thaw_cells hz4; simp only [Nat.zero_add] at c0 c1 c2 c3; have HZ4 := Lib.hid hz4; clear hz4)
           | skip);
         (clear hf4 hv hb4; unfold fval; simp only)))
  all_goals
    have ho := oldE_of (f := ⟨n, l, c⟩) HV.out
    first
    | (have hz := set4_at HZ4.out (.int .i64 xn) (.int .i64 xs) (.int .i64 xd) (.string xb)
       have HBB := Lib.hid (HB.out.trans ((below_set4 HB4.out HAb.out (.int .i64 xn) (.int .i64 xs) (.int .i64 xd) (.string xb)).mono HB.out.size))
       have c5 := cell_at0 hz
       clear hz c0 c1 c2 c3 m0 m1 m2 m3)
    | (have hz := alloc_at w4 (.cells #[.int .i64 xn, .int .i64 xs, .int .i64 xd, .string xb] 38)
       have HBB := Lib.hid (HB.out.trans ((HB4.out.alloc HB4.out.size (.cells #[.int .i64 xn, .int .i64 xs, .int .i64 xd, .string xb] 38)).mono HB.out.size))
       have c5 := cell_at0 hz
       clear hz)
    clear e1 e2 e3 e2'
    go_wp2
    go_ret2
    exact ⟨rfl, HBB.out⟩

end Go.Proofs.YtalnmbfmfeaohaaGreat.flight
