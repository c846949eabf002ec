/- A row of the call's own, written in place; extents that touch made one. -/
import Derived.Test.YtijafehhhknamaaRows
import Derived.Test.YtijafehhhknamaaExtB
import Derived.Test.YtijafehhhknamaaExtRow
import Derived.BigQuiet
import Derived.StillTailTactics
namespace Go.Proofs.Ytijafehhhknamaa.ext
open Go.RowKit Go.Sort
open Go.Proofs.Ytijafehhhknamaa.kit Go.Proofs.Ytijafehhhknamaa.own
set_option linter.unusedVariables false

theorem setL_two {l : List Value} {o : Nat} {a b : Value} (h : l[o]? = some a) : setL l o [a, b] = l.set (o + 1) b := by
  unfold setL
  have : l.set o a = l := by
    apply List.ext_getElem?
    intro t
    rw [List.getElem?_set]
    by_cases ht : o = t
    · subst ht
      have hl := (List.getElem?_eq_some_iff.1 h).1
      rw [if_pos rfl, if_pos hl, h]
    · rw [if_neg ht]
  rw [this]
  rfl
/-- The second cell of an extent is written. -/
theorem OwnAt.setNum {e g cap : Nat} {w : World} {xs : List Wy} (h : OwnAt wc 2 e w g cap xs) (i : Nat) (hi : i < xs.length) (q : Int) : OwnAt wc 2 e (w.setCell ⟨g, i * 2 + 1, none⟩ (.int .i64 q)) g cap (xs.set i (xs[i].1, q)) := by
  obtain ⟨cur, h1, h2, h3⟩ := h.ex
  have hs := h.set wc_len (by decide) i hi (xs[i].1, q)
  obtain ⟨cur', k1, k2, k3⟩ := hs.ex
  have hcell : cur.toList[i * 2]? = some (.int .i64 xs[i].1) := by
    have := (h.row wc_len i hi) 0 (.int .i64 xs[i].1) rfl
    simp [World.cell?, h1] at this
    simpa using this
  have e1 := heap_setCells g e (wc (xs[i].1, q)) (i * 2) w cur h1
  have e2 : setL cur.toList (i * 2) (wc (xs[i].1, q)) = cur.toList.set (i * 2 + 1) (.int .i64 q) := setL_two hcell
  rw [e2] at e1
  rw [e1] at k1
  have hcur : cur' = (cur.toList.set (i * 2 + 1) (.int .i64 q)).toArray := by
    have := Option.some.inj k1
    cases this
    rfl
  subst hcur
  refine ⟨⟨_, heap_setCell_same w g (i * 2 + 1) cur e (.int .i64 q) h1, ?_, ?_⟩, hs.le, hs.max⟩
  · simpa using k2
  · simpa using k3

/-- One more extent: laid to the last one, if it touches that. -/
def stepJ (few : List Wy) (x : Wy) : List Wy :=
  match few.getLast? with
  | none => few ++ [x]
  | some y => if y.1 + y.2 = x.1 then few.dropLast ++ [(y.1, y.2 + x.2)] else few ++ [x]
def joinE (xs : List Wy) : List Wy := xs.foldl stepJ []
theorem stepJ_len (few : List Wy) (x : Wy) : (stepJ few x).length ≤ few.length + 1 := by
  unfold stepJ
  split
  · simp
  · split
    · simp
    · simp
theorem joinE_snoc (xs : List Wy) (x : Wy) : joinE (xs ++ [x]) = stepJ (joinE xs) x := by simp [joinE]
theorem joinE_len (xs : List Wy) : (joinE xs).length ≤ xs.length := by
  suffices h : ∀ (xs : List Wy) (few : List Wy), (xs.foldl stepJ few).length ≤ few.length + xs.length by
    have := h xs []
    simpa [joinE] using this
  intro xs
  induction xs with
  | nil => intro few; simp
  | cons x r ih =>
    intro few
    rw [List.foldl_cons]
    have h1 := ih (stepJ few x)
    have h2 := stepJ_len few x
    simp only [List.length_cons]
    omega
theorem stepJ_nil (x : Wy) : stepJ [] x = [x] := rfl
theorem stepJ_last (few : List Wy) (k : Nat) (hk : few.length = k + 1) (x : Wy) : stepJ few x = if (few[k]'(by omega)).1 + (few[k]'(by omega)).2 = x.1 then few.set k ((few[k]'(by omega)).1, (few[k]'(by omega)).2 + x.2) else few ++ [x] := by
  have hl : few.getLast? = some (few[k]'(by omega)) := by
    have e : few.length - 1 = k := by omega
    rw [List.getLast?_eq_getElem?, e]
    simp [hk]
  unfold stepJ
  rw [hl]
  simp only
  split
  · apply List.ext_getElem?
    intro t
    rw [List.getElem?_set]
    by_cases ht : k = t
    · subst ht
      rw [if_pos rfl, if_pos (by omega), List.getElem?_append_right (by simp; omega)]
      simp [hk]
    · rw [if_neg ht]
      by_cases h2 : t < k
      · rw [List.getElem?_append_left (by simp; omega), List.getElem?_dropLast, if_pos (by omega)]
      · rw [List.getElem?_eq_none (by simp; omega), List.getElem?_eq_none (by omega)]
  · rfl

/-- An extent of the greatest row. -/
def Fine (x : Wy) : Prop := 0 ≤ x.1 ∧ 1 ≤ x.2 ∧ x.1 + x.2 ≤ 65536
theorem stepJ_fine (few : List Wy) (x : Wy) (hf : ∀ y ∈ few, Fine y) (hx : Fine x) : ∀ y ∈ stepJ few x, Fine y := by
  rcases Nat.eq_zero_or_pos few.length with h0 | h0
  · obtain rfl : few = [] := List.eq_nil_of_length_eq_zero h0
    intro y hy
    rw [stepJ_nil] at hy
    rw [List.mem_singleton.1 hy]; exact hx
  · obtain ⟨k, hk⟩ : ∃ k, few.length = k + 1 := ⟨few.length - 1, by omega⟩
    rw [stepJ_last few k hk x]
    have hl := hf _ (List.getElem_mem (show k < few.length by omega))
    intro y hy
    split at hy
    · rename_i he
      rcases List.mem_or_eq_of_mem_set hy with h | h
      · exact hf y h
      · subst h
        unfold Fine at *
        simp only
        omega
    · rcases List.mem_append.1 hy with h | h
      · exact hf y h
      · rw [List.mem_singleton.1 h]; exact hx
theorem joinE_fine (xs : List Wy) (h : ∀ x ∈ xs, Fine x) : ∀ y ∈ joinE xs, Fine y := by
  suffices hh : ∀ (xs : List Wy) (few : List Wy), (∀ x ∈ xs, Fine x) → (∀ x ∈ few, Fine x) → ∀ y ∈ xs.foldl stepJ few, Fine y from hh xs [] h (fun x hx => by cases hx)
  intro xs
  induction xs with
  | nil => intro few _ h2; exact h2
  | cons x r ih => 
    intro few h1 h2
    rw [List.foldl_cons]
    exact ih _ (fun y hy => h1 y (List.mem_cons_of_mem _ hy)) (stepJ_fine few x h2 (h1 x (List.mem_cons_self ..)))
theorem ocells_at {e g cap : Nat} {w : World} {xs : List Wy} (h : OwnAt wc 2 e w g cap xs) (i : Nat) (hi : i < xs.length) : w.cell? ⟨g, i * 2, none⟩ = some (.int .i64 xs[i].1) ∧ w.cell? ⟨g, i * 2 + 1, none⟩ = some (.int .i64 xs[i].2) := by
  have := h.row wc_len i hi
  exact wcells_at this
/-- A row of extents is handed back, the call's own. -/
def RowS (w : World) (xs : List Wy) (e : Ending) (w' : World) : Prop := ∃ v, e = .returned v ∧ Own wc 2 48 w' w.heap.size v xs ∧ Below w.heap.size w w'

set_option maxHeartbeats 8000000 in
set_option maxRecDepth 100000 in
theorem joined_any (v : Value) (xs : List Wy) (w : World) (h : Sl wc 2 w v xs) (hf : ∀ x ∈ xs, Fine x) (hlen : xs.length * 16 ≤ 140737488355328) :
    Calls Try.prog 35 #[v] w (RowS w (joinE xs)) := by
  obtain ⟨hl, a, cap, rfl, -, -⟩ := id h
  have HS := Lib.hid h; have HFn := Lib.hid hf; have HLn := Lib.hid hlen
  obtain ⟨L, hL⟩ : ∃ L, xs.length = L := ⟨_, rfl⟩
  have HL := Lib.hid hL
  rw [hL] at hl HS HLn ⊢
  clear h hL hf hlen
  have mixed : Try.prog.follows .mixedOrders = true := by kernel_rfl
  go_enter Try.func35, Try.ntmps35
  go_wp2
  go_loopw [3, 9] (fun vf i wr => ∃ (k : Nat), k ≤ L ∧ i = .int .i64 k ∧ Own wc 2 48 wr w.heap.size vf (joinE (xs.take k)) ∧ Below w.heap.size w wr) (fun _ i _ => L - (intOf i).toNat)
  case atStart => exact ⟨0, by omega, rfl, Own.nil _ _ _, Below.refl _ _⟩
  case round =>
    obtain ⟨k, hk, rfl, ho, hb⟩ := hrel
    have HB := Lib.hid hb
    by_cases hlt : k < L
    · have hlt' : (k : Int) < L := by omega
      have hi : k < xs.length := by rw [HL.out]; exact hlt
      have hs2 : Sl wc 2 wr (.slice a L cap) xs := HS.out.keep HB.out
      obtain ⟨_, a', cap', he, -, hcell⟩ := hs2
      have he' : a = a' ∧ cap = cap' := by cases he; exact ⟨rfl, rfl⟩
      obtain ⟨rfl, rfl⟩ := he'
      clear he
      obtain ⟨b, off, rfl, hbl, hcell⟩ := hcell (by omega)
      obtain ⟨c1, c2⟩ := wcells_at (hcell k hi)
      clear hcell
      have ht : xs.take (k + 1) = xs.take k ++ [xs[k]] := List.take_succ_eq_append_getElem hi
      have hj : joinE (xs.take (k + 1)) = stepJ (joinE (xs.take k)) xs[k] := by rw [ht, joinE_snoc]
      have hfx := HFn.out _ (List.getElem_mem hi)
      have hfl := joinE_fine (xs.take k) (fun x hx => HFn.out x (List.mem_of_mem_take hx))
      have hll : (joinE (xs.take k)).length ≤ k := by have := joinE_len (xs.take k); rw [List.length_take] at this; omega
      obtain ⟨x, hx⟩ : ∃ x, xs[k] = x := ⟨_, rfl⟩
      obtain ⟨few, hfew⟩ : ∃ few, joinE (xs.take k) = few := ⟨_, rfl⟩
      rw [hx] at c1 c2 hj hfx
      rw [hfew] at hj hfl hll ho
      obtain ⟨p, q⟩ := x
      simp only at c1 c2
      clear ht hx hfew
      obtain ⟨b1, b2⟩ := ebox_cells wr (p, q)
      have hbA := below_new wr (ebox (p, q))
      have HBn := Lib.hid (HB.out.trans (hbA.mono HB.out.size))
      have HOn := Lib.hid (ho.below hbA)
      simp only [ebox] at b1 b2 hbA HBn HOn
      have HSn := Lib.hid (fun W => sl_new wc_len W ((p, q) : Wy) 48 _ rfl)
      rcases Nat.eq_zero_or_pos few.length with h0 | h0
      · obtain rfl : few = [] := List.eq_nil_of_length_eq_zero h0
        obtain ⟨xa, xc, rfl⟩ := ho.slice
        have HJ := Lib.hid hj
        clear ho hb hj hfx hfl hll h0
        simp only [List.length_nil] at HOn ⊢
        go_upto_region 6 with fail
        generalize (wr.alloc (.cells #[.int .i64 p, .int .i64 q] 48)) = W at HBn HOn b1 b2 hbA ⊢
        obtain ⟨M, hM⟩ : ∃ M, wr.heap.size = M := ⟨_, rfl⟩
        rw [hM] at b1 b2 ⊢
        clear c1 c2 hbA hM
        go_quiet (fail)
        have HB2 := Lib.hid (HBn.out.drewN' nq)
        have HO2 := Lib.hid (HOn.out.below ((Below.refl W.heap.size W).drewN' nq))
        have HB3 := Lib.hid (HB2.out.trans ((below_new (W.drewN nq) (.cells (wc (p, q)).toArray 48)).mono HB2.out.size))
        have HO3 := Lib.hid (HO2.out.below (below_new (W.drewN nq) (.cells (wc (p, q)).toArray 48)))
        go_wp2_with (at_builtin; refine appSl wc_len wc_one (by decide) rfl _ _ 22 rfl w.heap.size 48 _ (by rfl) 16 Try.underlying22 infoWay _ [] rfl HO3.out _ [(p, q)] rfl (HSn.out _) (by unfold maxLen; simp) (by simp) HB3.out.size ?_; intro v3 w3 ho3 hk3; obtain ⟨x3, y3, rfl⟩ := ho3.slice; have HO4 := Lib.hid ho3; have HB4 := Lib.hid (HB3.out.trans hk3.toBelow); clear ho3 hk3)
        clear b1 b2
        go_roundw
        case rel => exact ⟨k + 1, by omega, by go_num, by rw [HJ.out]; exact HO4.out, HB4.out⟩
        case measure => simp [intOf]; omega
      · obtain ⟨j, hjl⟩ : ∃ j, few.length = j + 1 := ⟨few.length - 1, by omega⟩
        rw [stepJ_last few j hjl (p, q)] at hj
        rcases ho.at with ⟨_, h0'⟩ | ⟨g, cg, rfl, hBg, hat⟩
        · rw [h0'] at h0; simp at h0
        have hjf : j < few.length := by omega
        have hfj := hfl _ (List.getElem_mem hjf)
        have hgl := hat.lt
        obtain ⟨d1, d2⟩ := ocells_at hat j hjf
        obtain ⟨y, hy⟩ : ∃ y, few[j] = y := ⟨_, rfl⟩
        have HY := Lib.hid hy
        rw [hy] at d1 d2 hfj hj
        obtain ⟨p2, q2⟩ := y
        unfold Fine at hfj hfx
        simp only at d1 d2 hj hfj hfx
        have hse : -9223372036854775808 ≤ (p2, q2).1 + (p2, q2).2 ∧ (p2, q2).1 + (p2, q2).2 ≤ 9223372036854775807 := by simp only; omega
        have hend := fun n os => end_grow (p2, q2) (Sort.grow ((wr.alloc (.cells #[.int .i64 p, .int .i64 q] 48)).drewN n) os) hse
        simp only at hend
        have hfi : ((few.length : Nat) : Int) - 1 = j := by omega
        have hj0 : (0 : Int) ≤ j := by omega
        have hjL : (j : Int) < few.length := by omega
        have hjN : j < few.length := hjf
        have hwj : IntKind.i64.wrap (j : Int) = j := by rw [IntKind.wrap_i64]; omega
        have hwq : IntKind.i64.wrap (q2 + q) = q2 + q := by rw [IntKind.wrap_i64]; omega
        have HAt := Lib.hid (hat.block (hbA.block g hgl))
        have e1 := (hbA.cell (p := ⟨g, _, none⟩) hgl).trans d1
        have e2 := (hbA.cell (p := ⟨g, _, none⟩) hgl).trans d2
        have HG := Lib.hid hBg
        have HLl := Lib.hid hll
        have HFl := Lib.hid hjl
        clear d1 d2 ho hb hfl hat hll h0 hy hse hjl
        go_upto_region 6 with fail
        generalize (wr.alloc (.cells #[.int .i64 p, .int .i64 q] 48)) = W at HBn HOn HAt b1 b2 hbA e1 e2 hend ⊢
        obtain ⟨M, hM⟩ : ∃ M, wr.heap.size = M := ⟨_, rfl⟩
        rw [hM] at b1 b2 ⊢
        have hMl := cell_lt b1
        have hgl := cell_lt e1
        have b1 := cell_grown (a := ⟨M, 0, none⟩) hMl b1
        have b2 := cell_grown (a := ⟨M, 1, none⟩) hMl b2
        have e1 := cell_grown (a := ⟨g, j * 2, none⟩) hgl e1
        have e2 := cell_grown (a := ⟨g, j * 2 + 1, none⟩) hgl e2
        clear c1 c2 hbA hM
        by_cases hc : p2 + q2 = p
        · rw [if_pos hc] at hj
          have HJ := Lib.hid hj
          clear hj
          go_quiet_grown (first | (go_at_call 24; exact Calls.grown_of (hend _ _)))
          have HB2 := Lib.hid (HBn.out.trans ((grow_below (w := W) ⟨nq, osq, rfl⟩).mono HBn.out.size))
          have HA2 := Lib.hid (HAt.out.block ((grow_below (w := W) ⟨nq, osq, rfl⟩).block g hgl))
          have b1 := b1 nq osq
          have b2 := b2 nq osq
          have e1 := e1 nq osq
          have e2 := e2 nq osq
          simp only
          generalize (Sort.grow (W.drewN nq) osq) = W2 at HB2 HA2 b1 b2 e1 e2 ⊢
          clear hend hMl hgl
          go_upto_region 7 with fail
          go_still_tail 8, (by kernel_rfl)
          change wpList _ _ _ _ _ W2.drew
          have HA3 := Lib.hid (show OwnAt wc 2 48 W2.drew g cg few from HA2.out.block rfl)
          have HB3 := Lib.hid (HB2.out.drewN' 1)
          obtain ⟨f1, f2⟩ := HA3.out.thaw2 j
          clear b1 b2 e1 e2
          obtain ⟨-, e2⟩ := ocells_at HA3.out j hjf
          have HA4 := Lib.hid (HA3.out.setNum j hjf (q2 + q))
          rw [HY.out] at HA4
          have HB4 := Lib.hid ((show Below w.heap.size w W2.drew from HB3.out).setCell (p := ⟨g, j * 2 + 1, none⟩) HG.out (.int .i64 (q2 + q)))
          generalize W2.drew = W3 at HA4 HB4 f1 f2 e2 ⊢
          clear HA3 HB3 HA2 HB2 f1
          go_wp2
          go_roundw
          case rel => exact ⟨k + 1, by omega, by go_num, by rw [HJ.out]; have := HA4.out.own wc_len HG.out; rw [List.length_set] at this; exact this, HB4.out⟩
          case measure => simp [intOf]; omega
        · rw [if_neg hc] at hj
          have HJ := Lib.hid hj
          clear hj
          go_quiet_grown (first | (go_at_call 24; exact Calls.grown_of (hend _ _)))
          have HB2 := Lib.hid (HBn.out.trans ((grow_below (w := W) ⟨nq, osq, rfl⟩).mono HBn.out.size))
          have HO2 := Lib.hid (HOn.out.below (grow_below (w := W) ⟨nq, osq, rfl⟩))
          have b1 := b1 nq osq
          have b2 := b2 nq osq
          simp only
          generalize (Sort.grow (W.drewN nq) osq) = W2 at HB2 HO2 b1 b2 ⊢
          clear hend hMl hgl e1 e2
          have HB3 := Lib.hid (HB2.out.trans ((below_new W2 (.cells (wc (p, q)).toArray 48)).mono HB2.out.size))
          have HO3 := Lib.hid (HO2.out.below (below_new W2 (.cells (wc (p, q)).toArray 48)))
          go_wp2_with (at_builtin; refine appSl wc_len wc_one (by decide) rfl _ _ 22 rfl w.heap.size 48 _ (by rfl) 16 Try.underlying22 infoWay _ few rfl HO3.out _ [(p, q)] rfl (HSn.out _) (by have := HLl.out; have := HLn.out; unfold maxLen; simp; omega) (by have := HLl.out; have := HLn.out; simp; omega) HB3.out.size ?_; intro v3 w3 ho3 hk3; obtain ⟨x3, y3, rfl⟩ := ho3.slice; have HO4 := Lib.hid ho3; have HB4 := Lib.hid (HB3.out.trans hk3.toBelow); clear ho3 hk3)
          clear b1 b2
          go_roundw
          case rel => exact ⟨k + 1, by omega, by go_num, by rw [HJ.out]; have := HO4.out; rw [List.length_append] at this; exact this, HB4.out⟩
          case measure => simp [intOf]; omega
    · obtain rfl : k = L := by omega
      have HE : Hid (xs.take k = xs) := Lib.hid (by rw [← HL.out, List.take_length])
      rw [HE.out] at ho
      have HO := Lib.hid ho
      clear ho hb
      go_wp2
      go_ret
      exact ⟨_, rfl, HO.out, HB.out⟩

end Go.Proofs.Ytijafehhhknamaa.ext
