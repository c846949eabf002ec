/- Put. -/
import Derived.Test.YtalnmbfmfeaohaaGreatRows
import Derived.Test.YtalnmbfmfeaohaaGreatFlightPick
import Derived.Test.YtalnmbfmfeaohaaGreatFlightConc
namespace Go.Proofs.YtalnmbfmfeaohaaGreat.flight
open Go.RowKit
open Go.Proofs.YtalnmbfmfeaohaaGreat.kit Go.Proofs.YtalnmbfmfeaohaaGreat.own
set_option linter.unusedVariables false

set_option maxHeartbeats 4000000 in
set_option maxRecDepth 100000 in
theorem has_any (v : Value) (xs : List Wy) (x : Wy) (w : World) (h : Sl wc 2 w v xs) (hok : ∀ y ∈ xs, Wy.Ok y) (hx : x.Ok) (hm : xs.length < maxLen) :
    Calls Tryz.prog 50 #[v, .agg #[.int .i64 x.1, .int .i64 x.2]] w fun e w' => e = .returned (.bool (decide (x ∈ xs))) ∧ Below w.heap.size w w' := by
  obtain ⟨p, q⟩ := x
  have hb := below_new w (.cells #[.int .i64 p, .int .i64 q] 40)
  have HS := Lib.hid (h.keep hb); have HB := Lib.hid hb
  have hc := wcells_at (x := (p, q)) (range_of_cells (alloc_at w (.cells #[.int .i64 p, .int .i64 q] 40)))
  obtain ⟨a, cp, rfl⟩ := h.slice
  have HOk := Lib.hid hok; have HX := Lib.hid hx; have HM := Lib.hid hm
  simp only [Nat.zero_add] at hc ⊢
  clear h hb hok hx hm
  go_enter Tryz.func50, Tryz.ntmps50
  go_upto_region 1 with fail
  generalize (w.alloc (.cells #[.int .i64 p, .int .i64 q] 40)) = W at HS HB hc ⊢
  generalize w.heap.size = N at hc ⊢
  obtain ⟨c1, c2⟩ := hc
  have HC := Lib.hid (And.intro c1 c2)
  obtain ⟨r, hr⟩ : ∃ r, decide ((p, q) ∈ xs) = r := ⟨_, rfl⟩
  have HR := Lib.hid hr
  clear hr
  have hd : Below W.heap.size W W.drew := ⟨rfl, rfl, rfl, Nat.le_refl _, fun _ _ => rfl⟩
  have HD := Lib.hid hd
  clear hd
  go_region_held3 (fun u => u.cell? ⟨N, 0, none⟩ = some (.int .i64 p) ∧ u.cell? ⟨N, 1, none⟩ = some (.int .i64 q))
    (first | exact ⟨c1, c2⟩ | exact ⟨d1, d2⟩)
    (first
      | ((go_at_call 44; refine (placesOf_any _ xs W.drew (HS.out.keep HD.out) HOk.out HM.out).mono ?_; rintro e w3 ⟨b, rfl, hp, hb3⟩; obtain ⟨cc, -, hlk⟩ := look_places hp HOk.out (p, q) HX.out; rw [HR.out] at hlk; have hl3 := hlk w3 (Below.refl _ _); have d1 := (hb3.cell (p := ⟨N, 0, none⟩) (cell_lt HC.out.1)).trans c1; have d2 := (hb3.cell (p := ⟨N, 1, none⟩) (cell_lt HC.out.2)).trans c2; have HB3 := Lib.hid hb3; clear hb3 hlk hp)))
  have HBf := Lib.hid (HB.out.trans ((HD.out.trans HB3.out).mono HB.out.size))
  clear c1 c2 d1 d2 hl3
  go_wp2
  go_ret
  exact ⟨by rw [HR.out]; rfl, HBf.out⟩

def refE (f : Flt) (x : Wy) : Int := if x ∈ f.cut then 40 else if 65536 ≤ f.list.length ∨ 4611686018427387904 ≤ f.next then 21 else 0

set_option maxHeartbeats 4000000 in
set_option maxRecDepth 100000 in
theorem refusal_any (v : Value) (f : Flt) (x : Wy) (w : World) (h : FlR w v f) (hok : ∀ y ∈ f.cut, Wy.Ok y) (hx : x.Ok) (hm : f.cut.length < maxLen) :
    Calls Tryz.prog 30 #[v, .agg #[.int .i64 x.1, .int .i64 x.2]] w fun e w' => e = .returned (.int .i64 (refE f x)) ∧ Below w.heap.size w w' := by
  obtain ⟨vl, vc, rfl, hl, hc⟩ := h
  have hb1 := below_new w (.cells #[.int .i64 f.next, vl, vc] 25)
  have hb2 := below_new (w.alloc (.cells #[.int .i64 f.next, vl, vc] 25)) (.cells #[.int .i64 x.1, .int .i64 x.2] 40)
  have hx1 := (fbox_new w f.next vl vc).keep hb2
  have hx2 := wcells_at (x := x) (range_of_cells (alloc_at (w.alloc (.cells #[.int .i64 f.next, vl, vc] 25)) (.cells #[.int .i64 x.1, .int .i64 x.2] 40)))
  rw [World.size_alloc] at hx2
  have hb := hb1.trans (hb2.mono (by simp))
  have HS := Lib.hid (hc.keep hb); have HX1 := Lib.hid hx1; have HB := Lib.hid hb
  have HOk := Lib.hid hok; have HXo := Lib.hid hx; have HM := Lib.hid hm
  obtain ⟨al, cl, rfl⟩ := hl.slice
  obtain ⟨ac, cc, rfl⟩ := hc.slice
  obtain ⟨n, l, c⟩ := f
  obtain ⟨p, q⟩ := x
  have HE : Hid (refE ⟨n, l, c⟩ (p, q) = if (p, q) ∈ c then 40 else if 65536 ≤ l.length ∨ 4611686018427387904 ≤ n then 21 else 0) := by show _ = _; rfl
  simp only [Nat.zero_add] at HS HX1 hx2 HB HOk HXo HM ⊢
  clear hl hc hb1 hb2 hx1 hb hok hx hm
  go_enter Tryz.func30, Tryz.ntmps30
  go_upto_region 1 with fail
  generalize (w.alloc (.cells #[.int .i64 n, _, _] 25)).alloc _ = W at HS HX1 hx2 HB ⊢
  generalize w.heap.size + 1 = N2 at hx2 ⊢
  obtain ⟨N, hN⟩ : ∃ N, w.heap.size = N := ⟨_, rfl⟩
  rw [hN] at HX1 ⊢
  clear hN
  obtain ⟨e1, e2, e3⟩ := HX1.out.cells
  obtain ⟨k1, k2⟩ := hx2
  go_wp2_with fail
  refine (has_any _ c (p, q) W HS.out HOk.out HXo.out HM.out).mono ?_
  rintro e w1 ⟨rfl, hb1⟩
  have HX2 := Lib.hid (HX1.out.keep hb1); have HB1 := Lib.hid (HB.out.trans (hb1.mono HB.out.size))
  clear e1 e2 e3 k1 k2 hb1
  obtain ⟨e1, e2, e3⟩ := HX2.out.cells
  by_cases hin : (p, q) ∈ c
  · have hHE : Hid (refE ⟨n, l, c⟩ (p, q) = 40) := by show _ = _; rw [HE.out, if_pos hin]
    rw [decide_eq_true hin]
    clear hin HE
    go_wp2
    go_ret
    exact ⟨by rw [hHE.out]; rfl, HB1.out⟩
  · rw [decide_eq_false hin]
    have HE2 : Hid (refE ⟨n, l, c⟩ (p, q) = if 65536 ≤ l.length ∨ 4611686018427387904 ≤ n then 21 else 0) := by show _ = _; rw [HE.out, if_neg hin]
    clear hin HE
    by_cases h1 : 65536 ≤ l.length
    · have h1' : (65536 : Int) ≤ l.length := by omega
      have hHE : Hid (refE ⟨n, l, c⟩ (p, q) = 21) := by show _ = _; rw [HE2.out, if_pos (Or.inl h1)]
      go_wp2
      go_ret
      exact ⟨by rw [hHE.out]; rfl, HB1.out⟩
    · have h1' : True → decide ((65536 : Int) ≤ l.length) = false := fun _ => decide_eq_false (by omega)
      obtain ⟨x, hx⟩ : ∃ x, decide (4611686018427387904 ≤ n) = x := ⟨_, rfl⟩
      have HXd := Lib.hid hx
      have hHE : Hid (refE ⟨n, l, c⟩ (p, q) = if x then 21 else 0) := by
        show _ = _
        rw [HE2.out, ← HXd.out]
        by_cases h : 4611686018427387904 ≤ n
        · rw [if_pos (Or.inr h), decide_eq_true h]; rfl
        · rw [if_neg (fun hh => hh.elim h1 h), decide_eq_false h]; rfl
      have h2 : True → decide (4611686018427387904 ≤ n) = x := fun _ => hx
      clear hx HE2 HXd h1 HM HS HX1 HXo HOk
      go_upto_region 3 with fail
      generalize (4611686018427387904 : Int) = K at h2 ⊢
      generalize (65536 : Int) = K2 at h1' ⊢
      cases x with
      | true =>
        go_wp2
        go_ret
        exact ⟨by rw [hHE.out]; rfl, HB1.out⟩
      | false =>
        go_wp2
        go_ret
        exact ⟨by rw [hHE.out]; rfl, HB1.out⟩

theorem cell_set3 (W : World) (N R : Nat) (h : ¬ R = N) (a b c : Value) : (((W.setCell ⟨N, 0, none⟩ a).setCell ⟨N, 1, none⟩ b).setCell ⟨N, 2, none⟩ c).cell? ⟨R, 0, none⟩ = W.cell? ⟨R, 0, none⟩ := by
  have e : (((W.setCell ⟨N, 0, none⟩ a).setCell ⟨N, 1, none⟩ b).setCell ⟨N, 2, none⟩ c).heap[R]? = W.heap[R]? := by
    rw [heap_setCell_other _ _ _ _ h, heap_setCell_other _ _ _ _ h, heap_setCell_other _ _ _ _ h]
  simp only [World.cell?, e]
/-- What Put tells. -/
def putE (f : Flt) (a b : Int) (t : ByteArray) : Flt × Int × Int :=
  if refE f (a, b) = 0 then (⟨f.next + 1, f.list ++ [⟨f.next + 1, a, b, t⟩], f.cut⟩, f.next + 1, 0) else (f, 0, refE f (a, b))
/-- A flight and two numbers are handed back, the rows the call's own. -/
def ThreeS (w : World) (r : Flt × Int × Int) (e : Ending) (w' : World) : Prop := ∃ vl vc, e = .returned (.tuple #[.agg #[.int .i64 r.1.next, vl, vc], .int .i64 r.2.1, .int .i64 r.2.2]) ∧ Own fc 4 38 w' w.heap.size vl r.1.list ∧ Own wc 2 40 w' w.heap.size vc r.1.cut ∧ Below w.heap.size w w'
theorem retF3 {fn : Func} {t u x : Tmp} {tmps : Array Value} {w : World} {N : Nat} {n : Int} {vl vc : Value} (h : fn.results = #[.cell t 25, .tmp u, .tmp x]) (ht : tmps.getD t undef = .pointer (some ⟨N, 0, none⟩)) (hx : FBox w N n vl vc) :
    (results fn tmps).run Tryz.prog w = .ok (.tuple #[.agg #[.int .i64 n, vl, vc], tmps.getD u undef, tmps.getD x undef]) w := by
  have hr := run_loadVar_mid (P := Tryz.prog) w N 0 25 [.int .i64 n, vl, vc] _ hx.range Tryz.underlying25 rfl sizeFlt
  have ht' : tmps[t]?.getD undef = .pointer (some ⟨N, 0, none⟩) := by simpa using ht
  simp [results, h, ht', asAddr, hr]

set_option maxHeartbeats 8000000 in
set_option maxRecDepth 100000 in
theorem Put_any (v : Value) (f : Flt) (a b : Int) (t : ByteArray) (w : World) (h : FlR w v f) (hok : ∀ y ∈ f.cut, Wy.Ok y) (hx : Wy.Ok (a, b)) (hl1 : f.list.length * 40 ≤ 140737488355328) (hl2 : f.cut.length * 16 ≤ 140737488355328) (hn : I64 f.next) :
    Calls Tryz.prog 11 #[v, .int .i64 a, .int .i64 b, .string t] w (ThreeS w (putE f a b t)) := by
  obtain ⟨vl, vc, rfl, hl, hc⟩ := id h
  have hb1 := below_new w (.cells #[.int .i64 f.next, vl, vc] 25)
  have hb2 := below_new (w.alloc (.cells #[.int .i64 f.next, vl, vc] 25)) (.cells #[.int .i64 0, .slice none 0 0, .slice none 0 0] 25)
  have hx1 := (fbox_new w f.next vl vc).keep hb2
  have hx2 := fbox_new (w.alloc (.cells #[.int .i64 f.next, vl, vc] 25)) 0 (.slice none 0 0) (.slice none 0 0)
  rw [World.size_alloc] at hx2
  have hb := hb1.trans (hb2.mono (by simp))
  have HFl := Lib.hid (h.keep hb); have HS1 := Lib.hid (hl.keep hb); have HS2 := Lib.hid (hc.keep hb)
  have HX1 := Lib.hid hx1; have HX2 := Lib.hid hx2; have HB := Lib.hid hb; have HOk := Lib.hid hok; have HXo := Lib.hid hx; have HL1 := Lib.hid hl1; have HL2 := Lib.hid hl2
  obtain ⟨al, cl, rfl⟩ := hl.slice
  obtain ⟨ac, cc, rfl⟩ := hc.slice
  obtain ⟨n, l, c⟩ := f
  obtain ⟨r, hr⟩ : ∃ r, refE ⟨n, l, c⟩ (a, b) = r := ⟨_, rfl⟩
  have HR := Lib.hid hr
  have HLl0 : Hid (r = 0 → l.length ≤ 65535) := by
    show _ → _
    intro h
    rw [h] at hr
    unfold refE at hr
    split at hr
    · simp at hr
    · split at hr
      · simp at hr
      · rename_i h1 h2
        simp only at h2
        omega
  have HNx : Hid (r = 0 → -9223372036854775808 ≤ n ∧ n < 4611686018427387904) := by
    show _ → _
    intro h
    rw [h] at hr
    unfold refE at hr
    split at hr
    · simp at hr
    · split at hr
      · simp at hr
      · rename_i h1 h2
        simp only at h2 hn
        exact ⟨hn.1, by omega⟩
  simp only at HS1 HS2 HX1 HX2 HB HFl HOk HL1 HL2 ⊢
  clear hl hc hb1 hb2 hx1 hx2 hb h hok hx hl1 hl2 hr hn
  go_enter Tryz.func11, Tryz.ntmps11
  go_upto_region 1 with fail
  generalize (w.alloc (.cells #[.int .i64 n, _, _] 25)).alloc _ = W at HFl HS1 HS2 HX1 HX2 HB ⊢
  generalize hN2 : w.heap.size + 1 = N2 at HX2 ⊢
  obtain ⟨N, hN⟩ : ∃ N, w.heap.size = N := ⟨_, rfl⟩
  rw [hN] at HX1 ⊢
  have HN := Lib.hid (And.intro hN hN2)
  clear hN hN2
  obtain ⟨e1, e2, e3⟩ := HX1.out.cells
  go_wp2_with fail
  refine (refusal_any _ ⟨n, l, c⟩ (a, b) W HFl.out HOk.out HXo.out (by have := HL2.out; simp only; unfold maxLen; omega)).mono ?_
  rintro e w1 ⟨rfl, hb1⟩
  rw [HR.out]
  have HX12 := Lib.hid (HX1.out.keep hb1); have HX22 := Lib.hid (HX2.out.keep hb1); have HFl2 := Lib.hid (HFl.out.keep hb1); have HS12 := Lib.hid (HS1.out.keep hb1); have HS22 := Lib.hid (HS2.out.keep hb1)
  have HB1 := Lib.hid (HB.out.trans (hb1.mono HB.out.size)); have HSz := Lib.hid hb1.size
  clear e1 e2 e3 hb1
  obtain ⟨e1, e2, e3⟩ := HX12.out.cells
  by_cases h0 : r = 0
  · have hq : True → (r != 0) = false := fun _ => by simp [h0]
    have HP : Hid (putE ⟨n, l, c⟩ a b t = (⟨n + 1, l ++ [⟨n + 1, a, b, t⟩], c⟩, n + 1, 0)) := by show _ = _; unfold putE; rw [HR.out, if_pos h0]
    have HR0 := Lib.hid h0
    clear h0
    clear HXo HOk
    have hnw : IntKind.i64.wrap (n + 1) = n + 1 := by
      have h1 := HNx.out HR0.out
      rw [IntKind.wrap_i64]; omega
    have HNw := Lib.hid hnw
    have HLl := Lib.hid (HLl0.out HR0.out)
    clear hnw HR0 HNx HLl0
    have hb3 := below_new w1 (.cells #[.int .i64 (n + 1), .int .i64 a, .int .i64 b, .string t] 38)
    have HX13 := Lib.hid (HX12.out.keep hb3); have HX23 := Lib.hid (HX22.out.keep hb3); have HS13 := Lib.hid (HS12.out.keep hb3); have HS23 := Lib.hid (HS22.out.keep hb3)
    have HB3 := Lib.hid (HB1.out.trans (hb3.mono HB1.out.size))
    have hfr := fcells_at (x := ⟨n + 1, a, b, t⟩) (range_of_cells (alloc_at w1 (.cells #[.int .i64 (n + 1), .int .i64 a, .int .i64 b, .string t] 38)))
    simp only [Nat.zero_add] at hfr
    go_upto_region 5 with fail
    have hn64 : wrap64 (n + 1) = n + 1 := by have := HNw.out; rw [IntKind.wrap_i64] at this; simp [wrap64]; omega
    rw [hn64]
    clear hn64
    have hlt := HX22.out.lt
    have HLt := Lib.hid hlt
    generalize (w1.alloc (.cells #[.int .i64 (n + 1), .int .i64 a, .int .i64 b, .string t] 38)) = W3 at HX13 HX23 HS13 HS23 HB3 hfr hb3 ⊢
    generalize hR3 : w1.heap.size = R3 at hfr HLt ⊢
    clear e1 e2 e3
    obtain ⟨e1, e2, e3⟩ := HX13.out.cells
    obtain ⟨r0, r1, r2, r3⟩ := hfr
    have HFr := Lib.hid (show W3.cell? ⟨R3, 0, none⟩ = some (.int .i64 (n + 1)) from r0)
    have hb4 := below_new W3 (.cells #[.int .i64 (n + 1), .int .i64 a, .int .i64 b, .string t] 38)
    have hsn := sl_new fc_len W3 (⟨n + 1, a, b, t⟩ : Frm) 38 W3.heap.size rfl
    have hb5 := below_new (W3.alloc (.cells #[.int .i64 (n + 1), .int .i64 a, .int .i64 b, .string t] 38)) (.cells #[.slice al l.length cl, .slice (some ⟨W3.heap.size, 0, none⟩) 1 1] 22)
    have hal := alloc_at (W3.alloc (.cells #[.int .i64 (n + 1), .int .i64 a, .int .i64 b, .string t] 38)) (.cells #[.slice al l.length cl, .slice (some ⟨W3.heap.size, 0, none⟩) 1 1] 22)
    rw [World.size_alloc] at hal
    have hcc : ∀ j v, (#[Value.slice al l.length cl, .slice (some ⟨W3.heap.size, 0, none⟩) 1 1] : Array Value)[j]? = some v → ((W3.alloc (.cells #[.int .i64 (n + 1), .int .i64 a, .int .i64 b, .string t] 38)).alloc (.cells #[.slice al l.length cl, .slice (some ⟨W3.heap.size, 0, none⟩) 1 1] 22)).cell? ⟨W3.heap.size + 1, j, none⟩ = some v := by
      intro j v hv
      simp only [World.cell?, hal]
      exact hv
    have hll : l.length ≤ 65535 := HLl.out
    have hcon := concatF_any (W3.heap.size + 1) _ _ l [⟨n + 1, a, b, t⟩] _ ((HS13.out.keep hb4).keep hb5) (hsn.keep hb5) (hcc 0 _ rfl) (hcc 1 _ rfl) (by simp; omega)
    have HCon := Lib.hid hcon
    have HX14 := Lib.hid ((HX13.out.keep hb4).keep hb5); have HX24 := Lib.hid ((HX23.out.keep hb4).keep hb5); have HS24 := Lib.hid ((HS23.out.keep hb4).keep hb5)
    have HB5 := Lib.hid (HB3.out.trans ((hb4.trans (hb5.mono hb4.size)).mono HB3.out.size))
    have hfr4 := (hb5.cell (p := ⟨R3, 0, none⟩) (Nat.lt_of_lt_of_le (cell_lt HFr.out) hb4.size)).trans ((hb4.cell (p := ⟨R3, 0, none⟩) (cell_lt HFr.out)).trans HFr.out)
    have HFr4 := Lib.hid hfr4
    have HSz5 := Lib.hid (Nat.le_trans hb4.size hb5.size)
    clear hcon hcc hal hb4 hsn hb5 hll hfr4 hlt hR3 hb3
    go_wp2_with fail
    refine HCon.out.mono ?_
    rintro e w5 ⟨v5, rfl, ho5, hb5⟩
    clear e1 e2 e3 r0 r1 r2 r3
    obtain ⟨x5, y5, rfl⟩ := ho5.slice
    have hlen : (l ++ [(⟨n + 1, a, b, t⟩ : Frm)]).length = l.length + 1 := by simp
    rw [hlen] at ho5 ⊢
    have hd : Below w5.heap.size w5 w5.drew := ⟨rfl, rfl, rfl, Nat.le_refl _, fun _ _ => rfl⟩
    have HX15 := Lib.hid ((HX14.out.keep hb5).keep hd); have HX25 := Lib.hid ((HX24.out.keep hb5).keep hd); have HS25 := Lib.hid ((HS24.out.keep hb5).keep hd)
    have hfr5 : w5.drew.cell? ⟨R3, 0, none⟩ = some (.int .i64 (n + 1)) := (hb5.cell (p := ⟨R3, 0, none⟩) (cell_lt HFr4.out)).trans HFr4.out
    have HFr5 := Lib.hid hfr5
    have HO5 := Lib.hid (ho5.below hd); have HB6 := Lib.hid (HB5.out.trans ((hb5.trans (hd.mono hb5.size)).mono HB5.out.size))
    clear ho5 hb5 hd hlen hfr5
    have q1 : ¬ R3 = N2 := by have := HLt.out; omega
    have q2 : ¬ N2 = R3 := by omega
    have q3 : ¬ N = N2 := by have := HN.out; omega
    have q4 : ¬ N2 = N := by omega
    have HQ := Lib.hid (And.intro q1 q3)
    go_upto_region 6 with fail
    obtain ⟨-, -, e3⟩ := HX15.out.cells
    have e4 := HFr5.out
    go_region_held3 (fun u => u.cell? ⟨R3, 0, none⟩ = some (.int .i64 (n + 1)) ∧ u.cell? ⟨N, 2, none⟩ = some (.slice ac c.length cc))
      (first | exact ⟨e4, e3⟩ | exact ⟨g1, g2⟩ | exact ⟨i1, i2⟩)
      (first
        | ((go_at_call 33; refine (cloneW_any _ _ w5.drew HS25.out HL2.out).mono ?_; rintro e w6 ⟨v6, rfl, ho6, hb6⟩; obtain ⟨x6, y6, rfl⟩ := ho6.slice; have HX26 := Lib.hid (HX25.out.keep hb6); have HX16 := Lib.hid (HX15.out.keep hb6); have HO6 := Lib.hid ho6; have HO56 := Lib.hid (HO5.out.below hb6); have HB7 := Lib.hid (HB6.out.trans (hb6.mono HB6.out.size)); have g1 := (hb6.cell (p := ⟨R3, 0, none⟩) (cell_lt HFr5.out)).trans HFr5.out; have g2 := HX16.out.cells.2.2; obtain ⟨k1, k2, k3⟩ := HX26.out.cells; obtain ⟨f1, f2, f3⟩ := HX26.out.thaw; have i2 := (HX16.out.other HQ.out.2 (.int .i64 (n + 1)) (.slice x5 (l.length + 1) y5) (.slice x6 c.length y6)).cells.2.2; have i1 : ((((w6.setCell ⟨N2, 0, none⟩ (.int .i64 (n + 1))).setCell ⟨N2, 1, none⟩ (.slice x5 (l.length + 1) y5)).setCell ⟨N2, 2, none⟩ (.slice x6 c.length y6)).cell? ⟨R3, 0, none⟩ = some (.int .i64 (n + 1))) := (cell_set3 w6 N2 R3 HQ.out.1 _ _ _).trans g1; clear ho6 hb6)))
    have hF := HX26.out.set (n + 1) (.slice x5 (l.length + 1) y5) (.slice x6 c.length y6)
    have hO1 := (HO56.out.set3 (Nat.lt_of_lt_of_le HX23.out.lt HSz5.out) (.int .i64 (n + 1)) (.slice x5 (l.length + 1) y5) (.slice x6 c.length y6)).mono (Nat.le_trans HB3.out.size HSz5.out)
    have hO2 := (HO6.out.set3 (show N2 < w5.drew.heap.size from HX25.out.lt) (.int .i64 (n + 1)) (.slice x5 (l.length + 1) y5) (.slice x6 c.length y6)).mono HB6.out.size
    have hB := below_set3 HB7.out (show w.heap.size ≤ N2 by have := HN.out; omega) (.int .i64 (n + 1)) (.slice x5 (l.length + 1) y5) (.slice x6 c.length y6)
    clear g1 g2 i1 i2 e3 e4 k1 k2 k3 f1 f2 f3
    go_wp2
    refine bodyPost_ret (retF3 rfl rfl hF) rfl ?_
    unfold ThreeS
    rw [HP.out]
    exact ⟨_, _, rfl, hO1, hO2, hB⟩
  · have hq : True → (r != 0) = true := fun _ => by simp [h0]
    have HP : Hid (putE ⟨n, l, c⟩ a b t = (⟨n, l, c⟩, 0, r)) := by show _ = _; unfold putE; rw [HR.out, if_neg h0]
    clear h0
    go_wp2_with fail
    refine (copied_any _ ⟨n, l, c⟩ w1 HFl2.out HL1.out HL2.out).mono ?_
    rintro e w2 ⟨vl2, vc2, rfl, ho1, ho2, hb2⟩
    simp only at ho1 ho2 ⊢
    obtain ⟨a1, c1, rfl⟩ := ho1.slice
    obtain ⟨a2, c2, rfl⟩ := ho2.slice
    have HX23 := Lib.hid (HX22.out.keep hb2)
    have HO1 := Lib.hid ho1; have HO2 := Lib.hid ho2; have HB2 := Lib.hid (HB1.out.trans (hb2.mono HB1.out.size))
    clear e1 e2 e3 ho1 ho2 hb2
    obtain ⟨k1, k2, k3⟩ := HX23.out.cells
    obtain ⟨f1, f2, f3⟩ := HX23.out.thaw
    go_wp2
    have hlt := HX22.out.lt
    have hF := HX23.out.set n (.slice a1 l.length c1) (.slice a2 c.length c2)
    have hO1 := (HO1.out.set3 hlt (.int .i64 n) (.slice a1 l.length c1) (.slice a2 c.length c2)).mono (show w.heap.size ≤ w1.heap.size from HB1.out.size)
    have hO2 := (HO2.out.set3 hlt (.int .i64 n) (.slice a1 l.length c1) (.slice a2 c.length c2)).mono (show w.heap.size ≤ w1.heap.size from HB1.out.size)
    have hB := below_set3 HB2.out (show w.heap.size ≤ N2 by have := HN.out; omega) (.int .i64 n) (.slice a1 l.length c1) (.slice a2 c.length c2)
    refine bodyPost_ret (retF3 rfl rfl hF) rfl ?_
    unfold ThreeS
    rw [HP.out]
    exact ⟨_, _, rfl, hO1, hO2, hB⟩

end Go.Proofs.YtalnmbfmfeaohaaGreat.flight
