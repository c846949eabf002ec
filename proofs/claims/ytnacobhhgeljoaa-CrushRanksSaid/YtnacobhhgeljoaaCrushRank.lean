/- The program's Rank. -/
import Derived.Test.YtnacobhhgeljoaaRows
import Derived.Test.YtnacobhhgeljoaaCrushSort
import Derived.Test.YtnacobhhgeljoaaCrushRCount
namespace Go.Proofs.Ytnacobhhgeljoaa.crush
open Go.RowKit Go.Shelf Go.Lib Go.Sort
open Go.Proofs.Ytnacobhhgeljoaa.kit Go.Proofs.Ytnacobhhgeljoaa.own
set_option linter.unusedVariables false

/-- The straw itself. -/
def PStr.s (p : PStr) : Str := p.1

theorem strP_mem (x : Nat) (r : Int) (xs : List It) : ∀ n s, s ∈ strP x r xs n ↔ ∃ i, i < n ∧ s = strA x r i (xs.getD i (0, 0)) ∧ 0 < wtN (xs.getD i (0, 0)).2
  | 0, s => by
    simp only [strP, List.not_mem_nil, false_iff]
    rintro ⟨i, hi, _⟩
    omega
  | n + 1, s => by
    have ih := strP_mem x r xs n s
    simp only [strP]
    split
    · rename_i h0
      rw [ih]
      constructor
      · rintro ⟨i, h1, h2⟩; exact ⟨i, by omega, h2⟩
      · rintro ⟨i, h1, h2, h3⟩
        refine ⟨i, ?_, h2, h3⟩
        have : i ≠ n := fun e => by rw [e] at h3; omega
        omega
    · rename_i h0
      rw [List.mem_append, ih, List.mem_singleton]
      constructor
      · rintro (⟨i, h1, h2⟩ | rfl)
        · exact ⟨i, by omega, h2⟩
        · exact ⟨n, by omega, rfl, by omega⟩
      · rintro ⟨i, h1, h2, h3⟩
        by_cases e : i = n
        · subst e; exact .inr h2
        · exact .inl ⟨i, by omega, h2, h3⟩
theorem strP_places (x : Nat) (r : Int) (xs : List It) : ∀ n, (strP x r xs n).Pairwise (fun a b => a.place ≠ b.place)
  | 0 => List.Pairwise.nil
  | n + 1 => by
    have ih := strP_places x r xs n
    simp only [strP]
    split
    · exact ih
    · rw [List.pairwise_append]
      refine ⟨ih, by simp, fun a ha b hb => ?_⟩
      obtain ⟨i, h1, rfl, _⟩ := (strP_mem x r xs n a).1 ha
      obtain rfl := List.mem_singleton.1 hb
      show i ≠ n
      omega
theorem strP_pos (x : Nat) (r : Int) (xs : List It) (n : Nat) (hn : n ≤ 1000000000) : ∀ s ∈ strP x r xs n, 0 < s.wt ∧ s.Low := by
  intro s hs
  obtain ⟨i, h1, rfl, h3⟩ := (strP_mem x r xs n s).1 hs
  exact ⟨h3, strA_low _ _ _ _ (by omega)⟩
theorem pstr_of : ∀ (l : List Str), (∀ s ∈ l, 0 < s.wt ∧ s.Low) → ∃ ps : List PStr, ps.map PStr.s = l
  | [], _ => ⟨[], rfl⟩
  | s :: l, h => by
    obtain ⟨ps, hps⟩ := pstr_of l (fun t ht => h t (by simp [ht]))
    let y : PStr := ⟨s, h s (by simp)⟩
    exact ⟨y :: ps, by rw [List.map_cons, hps]; rfl⟩

/-- A sorted row of the straws ranks the places. -/
theorem ranked_of (x : Nat) (r : Int) (xs : List It) (ys : List PStr) (hp : (ys.map PStr.s).Perm (strP x r xs xs.length)) (hw : ys.Pairwise (fun a b => leS a.1 b.1)) : Ranked (keys x r xs) (ys.map (fun a => a.1.place)) := by
  have hkey : ∀ y ∈ ys, y.1.place < xs.length ∧ y.1.cost = cO (keys x r xs) y.1.place ∧ y.1.wt = wO (keys x r xs) y.1.place := by
    intro y hy
    obtain ⟨i, h1, h2, h3⟩ := (strP_mem x r xs _ _).1 (hp.mem_iff.1 (List.mem_map_of_mem hy))
    have e : xs.getD i (0, 0) = xs[i] := by simp [List.getD, h1]
    have hk := keys_at x r xs i h1
    have h2' : y.1 = _ := h2
    rw [h2']
    show i < _ ∧ costN x _ r = cO _ i ∧ wtN _ = wO _ i
    rw [hk.1, hk.2, e]
    exact ⟨h1, rfl, rfl⟩
  have hne : ys.Pairwise (fun a b => a.1.place ≠ b.1.place) := by
    have h1 := (hp.pairwise_iff (R := fun a b : Str => a.place ≠ b.place) (fun h => fun e => h e.symm)).2 (strP_places x r xs xs.length)
    exact (List.pairwise_map (f := PStr.s) (R := fun a b : Str => a.place ≠ b.place)).1 h1
  refine ⟨?_, fun i => ?_⟩
  · rw [List.pairwise_map]
    have hb := hw.and hne
    refine hb.imp_of_mem ?_
    rintro a b ha hb' ⟨h1, h2⟩
    obtain ⟨_, a2, a3⟩ := hkey a ha
    obtain ⟨_, b2, b3⟩ := hkey b hb'
    unfold leS at h1
    rw [a2, a3, b2, b3] at h1
    rcases h1 with h1 | ⟨h1, h3⟩
    · exact ⟨by omega, fun _ => h1⟩
    · exact ⟨by omega, fun h => by omega⟩
  · rw [List.mem_map]
    constructor
    · rintro ⟨y, hy, rfl⟩
      obtain ⟨h1, h2, h3⟩ := hkey y hy
      rw [keys_len, ← h3]
      exact ⟨h1, y.2.1⟩
    · rintro ⟨h1, h2⟩
      rw [keys_len] at h1
      rw [(keys_at x r xs i h1).2] at h2
      have e : xs.getD i (0, 0) = xs[i] := by simp [List.getD, h1]
      have hm := (strP_mem x r xs xs.length (strA x r i xs[i])).2 ⟨i, h1, by rw [e], by rw [e]; exact h2⟩
      obtain ⟨y, hy, hv⟩ := List.mem_map.1 (hp.mem_iff.2 hm)
      refine ⟨y, hy, ?_⟩
      have hv' : y.1 = _ := hv
      rw [hv']; rfl

theorem Ranked.uniq : ∀ {ps qs : List Nat} {ks : List Ky}, Ranked ks ps → Ranked ks qs → ps = qs
  | [], [], _, _, _ => rfl
  | [], q :: qs, ks, h1, h2 => by have a := h1.nil; have b := h2.cons.2.1; rw [a] at b; cases b
  | p :: ps, [], ks, h1, h2 => by have a := h2.nil; have b := h1.cons.2.1; rw [a] at b; cases b
  | p :: ps, q :: qs, ks, h1, h2 => by
    have a := h1.cons
    have b := h2.cons
    have e : p = q := by have := a.2.1.symm.trans b.2.1; exact Option.some.inj this
    subst e
    rw [Ranked.uniq a.2.2 b.2.2]

/-- The sorted straws. -/
def Sorted (x : Nat) (r : Int) (xs : List It) (w : World) (e : Ending) (w' : World) : Prop := ∃ (v : Value) (ys : List PStr), e = .returned v ∧ Ranked (keys x r xs) (ys.map (fun a => a.1.place)) ∧ ys.length ≤ xs.length ∧ Below w.heap.size w w' ∧
  ((ys = [] ∧ v = .slice none 0 0) ∨ ∃ g cap, v = .slice (some ⟨g, 0, none⟩) ys.length cap ∧ w.heap.size ≤ g ∧ OwnAt pc 4 42 w' g cap ys)

set_option maxHeartbeats 8000000 in
set_option maxRecDepth 100000 in
theorem sortedFunc_any (b0 b1 b2 : Nat) (x : Nat) (hx : x < 4294967296) (r : Int) (xs : List It) (v : Value) (hlx : xs.length ≤ 1000000000) (w : World) (h0 : w.cell? ⟨b0, 0, none⟩ = some v) (h1 : w.cell? ⟨b1, 0, none⟩ = some (.int .u32 x)) (h2 : w.cell? ⟨b2, 0, none⟩ = some (.int .i64 r)) (hs : Sl wc 2 w v xs) :
    Calls Try.prog 28 #[.func (.func 30) #[] #[.pointer (some ⟨b0, 0, none⟩), .pointer (some ⟨b1, 0, none⟩), .pointer (some ⟨b2, 0, none⟩)], .func (.func 22) #[] #[]] w (Sorted x r xs w) := by
  have HA := Lib.hid (collect_any b0 b1 b2 x hx r xs v hlx w h0 h1 h2 hs)
  obtain ⟨ps, hps⟩ := pstr_of _ (strP_pos x r xs xs.length hlx)
  have HPs := Lib.hid hps
  have hll := strP_len x r xs xs.length
  rw [← hps, List.length_map] at hll
  have HLl := Lib.hid hll
  have HLx := Lib.hid hlx
  clear h0 h1 h2 hs hx hlx hps hll
  go_enter Try.func28, Try.ntmps28
  go_wp2_with fail
  refine HA.out.mono ?_
  rintro e w1 ⟨v1, rfl, ho, hb⟩
  have hop : Own pc 4 42 w1 w.heap.size v1 ps := by
    unfold Own at ho ⊢
    rw [← HPs.out, List.length_map, List.flatMap_map] at ho
    exact ho
  clear ho
  have HB := Lib.hid hb
  clear hb
  rcases Own.at hop with ⟨rfl, rfl⟩ | ⟨g, cap, rfl, hg, hat⟩
  · have HR : Hid (Ranked (keys x r xs) (([] : List PStr).map (fun a => a.1.place))) := Lib.hid (ranked_of x r xs [] (by rw [HPs.out]) List.Pairwise.nil)
    clear hop
    go_wp2_with (go_at_call 40; refine (AnyF.slices_SortFunc_none Try.sortWays none 0 _ _).mono ?_; rintro e w2 ⟨rfl, rfl⟩)
    go_ret
    exact ⟨_, [], rfl, HR.out, by simp, HB.out, .inl ⟨rfl, rfl⟩⟩
  · have HAt := Lib.hid hat
    have HG := Lib.hid hg
    have hm : ps.length < 4611686018427387904 := by have := HLl.out; have := HLx.out; omega
    have HM := Lib.hid hm
    clear hop hat hg hm
    go_wp2_with (go_at_call 40; refine (sortF_any g cap ps _ HAt.out HM.out).mono ?_; rintro e w2 ⟨rfl, zs, hp, hpw, hat2, hg2⟩; have HP := Lib.hid hp; have HPw := Lib.hid hpw; have HA2 := Lib.hid hat2; have HG2 := Lib.hid hg2; clear hp hpw hat2 hg2)
    go_ret
    refine ⟨_, zs, rfl, ranked_of x r xs zs ?_ HPw.out, by rw [HP.out.length_eq]; exact HLl.out, ?_, .inr ⟨g, cap, by rw [HP.out.length_eq]; rfl, HG.out, HA2.out⟩⟩
    · rw [← HPs.out]
      exact HP.out.map _
    · exact HB.out.grown HG2.out HB.out.size (fun j hj => by cases hj; exact HG.out)

theorem pcells_at {w : World} {b o : Nat} {p : PStr} (h : w.rangeAt b o (pc p)) : w.cell? ⟨b, o, none⟩ = some (.int .i64 p.1.id) ∧ w.cell? ⟨b, o + 1, none⟩ = some (.int .i64 p.1.wt) ∧ w.cell? ⟨b, o + 2, none⟩ = some (.int .i64 p.1.place) ∧ w.cell? ⟨b, o + 3, none⟩ = some (.int .i64 p.1.cost) :=
  ⟨h 0 _ rfl, h 1 _ rfl, h 2 _ rfl, h 3 _ rfl⟩
theorem OwnAt.kept {α : Type} {enc : α → List Value} {k e e' B g cap : Nat} {w w' : World} {xs : List α} (h : OwnAt enc k e w g cap xs) (hk : Kept B e' w w') (hne : e ≠ e') : OwnAt enc k e w' g cap xs := by
  obtain ⟨cur, h1, h2, h3⟩ := h.ex
  exact ⟨⟨cur, hk.box hne h1, h2, h3⟩, h.le, h.max⟩
/-- Ranks are handed back. -/
def RankO (x : Nat) (r : Int) (xs : List It) (w : World) (e : Ending) (w' : World) : Prop := ∃ v ps, e = .returned v ∧ Ranked (keys x r xs) ps ∧ ps.length ≤ xs.length ∧ Own ic 1 3 w' w.heap.size v (ints ps) ∧ Below w.heap.size w w'
def lenOfV : Value → Nat
  | .slice _ n _ => n
  | _ => 0

set_option maxHeartbeats 8000000 in
set_option maxRecDepth 100000 in
theorem Rank_any (v : Value) (xs : List It) (x : Nat) (r : Int) (hx : x < 4294967296) (hlx : xs.length ≤ 1000000) (w : World) (h : Sl wc 2 w v xs) :
    Calls Try.prog 15 #[v, .int .u32 x, .int .i64 r] w (RankO x r xs w) := by
  obtain ⟨a, c, rfl⟩ := h.slice
  obtain ⟨L, hL⟩ : ∃ L, xs.length = L := ⟨_, rfl⟩
  have HL := Lib.hid hL
  rw [hL] at h ⊢
  obtain ⟨W0, hW0⟩ : ∃ W0, ((w.alloc (.cells #[.slice a L c] 22)).alloc (.cells #[.int .u32 x] 23)).alloc (.cells #[.int .i64 r] 3) = W0 := ⟨_, rfl⟩
  have hb0 : Below w.heap.size w W0 := by rw [← hW0]; exact ((below_new w _).alloc (by simp) _).alloc (by simp; omega) _
  have hcs : W0.cell? ⟨w.heap.size, 0, none⟩ = some (.slice a L c) ∧ W0.cell? ⟨w.heap.size + 1, 0, none⟩ = some (.int .u32 x) ∧ W0.cell? ⟨w.heap.size + 1 + 1, 0, none⟩ = some (.int .i64 r) := by
    have e1 : W0.heap[w.heap.size]? = some (Obj.cells #[.slice a L c] 22 (0, 0)) := by
      rw [← hW0]; simp only [alloc_heap, Array.getElem?_push, Array.size_push]
      repeat (first | rw [if_pos trivial] | rw [if_pos (by omega)] | rw [if_neg (by omega)])
    have e2 : W0.heap[w.heap.size + 1]? = some (Obj.cells #[.int .u32 x] 23 (0, 0)) := by
      rw [← hW0]; simp only [alloc_heap, Array.getElem?_push, Array.size_push]
      repeat (first | rw [if_pos trivial] | rw [if_pos (by omega)] | rw [if_neg (by omega)])
    have e3 : W0.heap[w.heap.size + 1 + 1]? = some (Obj.cells #[.int .i64 r] 3 (0, 0)) := by
      rw [← hW0]; simp only [alloc_heap, Array.getElem?_push, Array.size_push]
      repeat (first | rw [if_pos trivial] | rw [if_pos (by omega)] | rw [if_neg (by omega)])
    exact ⟨box_cell e1, box_cell e2, box_cell e3⟩
  have HSf := Lib.hid (sortedFunc_any w.heap.size (w.heap.size + 1) (w.heap.size + 1 + 1) x hx r xs (.slice a L c) (by omega) W0 hcs.1 hcs.2.1 hcs.2.2 (h.keep hb0))
  have HB0 := Lib.hid hb0
  have HLx := Lib.hid hlx
  clear h hcs hb0 hx hlx hL
  go_enter Try.func15, Try.ntmps15
  go_wp2_with (go_at_call 21; refine (straws_any a L c x r _).mono ?_; rintro e w' ⟨rfl, rfl⟩)
  refine HSf.out.mono ?_
  rintro e w1 ⟨v1, ys, rfl, hrk, hyl, hb1, hrow⟩
  have HRk := Lib.hid hrk
  have HYl := Lib.hid hyl
  have HB1 := Lib.hid (HB0.out.trans (hb1.mono HB0.out.size))
  have hsz : w.heap.size ≤ W0.heap.size := HB0.out.size
  have HSz := Lib.hid hsz
  clear hrk hyl hb1 HSf HB0 hW0
  rcases hrow with ⟨rfl, rfl⟩ | ⟨g, cap, rfl, hg, hat⟩
  · go_wp2
    refine wp_loop_rounds 1 ?_
    rw [rounds_succ]
    go_wp2
    go_ret
    exact ⟨_, [], rfl, HRk.out, by simp, Own.nil _ _ _, HB1.out⟩
  · obtain ⟨M, hM⟩ : ∃ M, ys.length = M := ⟨_, rfl⟩
    have HM := Lib.hid hM
    rw [hM]
    have HAt := Lib.hid hat
    have HM2 : Hid (M ≤ 1000000) := Lib.hid (by have := HYl.out; have := HLx.out; omega)
    clear hat hM hg
    go_wp2
    go_loopw [16, 7] (fun vi vp wr => ∃ k : Nat, k ≤ M ∧ vi = .int .i64 k ∧ Own ic 1 3 wr w.heap.size vp (ints ((ys.map (fun a => a.1.place)).take k)) ∧ OwnAt pc 4 42 wr g cap ys ∧ Below w.heap.size w wr) (fun i _ _ => M - (intOf i).toNat)
    case atStart => exact ⟨0, by omega, rfl, Own.nil _ _ _, HAt.out, HB1.out⟩
    case round =>
      obtain ⟨k, hk, rfl, hown, hat, hbw⟩ := hrel
      have HB := Lib.hid hbw
      have HA := Lib.hid hat
      by_cases hlt : k < M
      · have hlt' : (k : Int) < M := by omega
        have hk0 : (0 : Int) ≤ k := by omega
        have hi : k < ys.length := by rw [HM.out]; exact hlt
        obtain ⟨d0, d1, d2, d3⟩ := pcells_at (hat.row pc_len k hi)
        have hlen : (ints ((ys.map (fun a => a.1.place)).take k)).length = k := by rw [ints_len, List.length_take, List.length_map, HM.out]; omega
        obtain ⟨ax, cx, rfl⟩ := hown.slice
        rw [hlen] at hown ⊢
        have htk : (ys.map (fun a => a.1.place)).take (k + 1) = (ys.map (fun a => a.1.place)).take k ++ [ys[k].1.place] := by rw [List.take_succ_eq_append_getElem (by simpa using hi)]; simp
        generalize ys[k] = y at d0 d1 d2 d3 htk
        have HTk : Hid (ints ((ys.map (fun a => a.1.place)).take (k + 1)) = ints ((ys.map (fun a => a.1.place)).take k) ++ [(y.1.place : Int)]) := Lib.hid (by rw [htk]; unfold ints; rw [List.map_append]; rfl)
        obtain ⟨⟨yi, yw, yp, yc⟩, hyp⟩ := y
        simp only at d0 d1 d2 d3 HTk
        have hb1 := below_new wr (sbox ⟨yi, yw, yp, yc⟩)
        have hX := alloc_at wr (sbox ⟨yi, yw, yp, yc⟩)
        have ho1 := hown.below hb1
        have ha1 := hat.block (hb1.block _ hat.lt)
        have hbb1 := hbw.trans (hb1.mono hbw.size)
        generalize ints ((ys.map (fun a => a.1.place)).take k) = out at ho1 hlen HTk
        simp only [sbox] at hX ho1 ha1 hbb1
        clear hown hat hbw htk hb1
        go_upto_region 5 with fail
        generalize (wr.alloc (.cells #[.int .i64 yi, .int .i64 (yw : Int), .int .i64 (yp : Int), .int .i64 (yc : Int)] 42)) = W5 at hX ho1 ha1 hbb1 ⊢
        generalize wr.heap.size = N5 at hX ⊢
        obtain ⟨m0, m1, m2, m3⟩ := sbox_at (x := ⟨yi, yw, yp, yc⟩) hX
        simp only at m1 m2 m3
        have hnew := below_new W5 (.cells #[.int .i64 (yp : Int)] 3)
        have hsn : Sl ic 1 (W5.alloc (.cells #[.int .i64 (yp : Int)] 3)) (.slice (some ⟨W5.heap.size, 0, none⟩) 1 1) [(yp : Int)] := sl_new ic_len W5 (yp : Int) 3 _ rfl
        have HSn := Lib.hid hsn
        have HO1 := Lib.hid (ho1.below hnew)
        have HA1 := Lib.hid (ha1.block (hnew.block _ ha1.lt))
        have HBB := Lib.hid (hbb1.trans (hnew.mono hbb1.size))
        have HLen := Lib.hid hlen
        have HkM : Hid (k ≤ 1000000) := Lib.hid (by have := HM2.out; omega)
        clear hX ho1 ha1 hbb1 hnew hsn d0 d1 d2 d3 hlen
        have hkp := HkM.out
        go_wp2_with (at_builtin; refine appSl ic_len ic_one (by decide) rfl _ _ 30 rfl w.heap.size 3 _ (by rfl) 8 Try.underlying30 infoInt _ out rfl (by rw [HLen.out] at *; exact HO1.out) _ [(yp : Int)] rfl HSn.out (by rw [HLen.out]; have := HkM.out; unfold maxLen; simp; omega) (by rw [HLen.out]; have := HkM.out; simp; omega) HBB.out.size ?_; intro v9 w9 ho9 hk9; have HO9 := Lib.hid ho9; have HA9 := Lib.hid (HA1.out.kept hk9 (by decide)); have HB9 := Lib.hid (HBB.out.trans hk9.toBelow); clear ho9 hk9)
        go_roundw
        case rel => exact ⟨k + 1, by omega, by go_num, by rw [HTk.out]; exact HO9.out, HA9.out, HB9.out⟩
        case measure => simp [intOf]; omega
      · obtain rfl : k = M := by omega
        have hlen : (ys.map (fun a => a.1.place)).take k = ys.map (fun a => a.1.place) := List.take_of_length_le (by rw [List.length_map, HM.out]; exact Nat.le_refl _)
        rw [hlen] at hown
        have HO := Lib.hid hown
        obtain ⟨ax, cx, rfl⟩ := hown.slice
        clear hown hat hbw hlen
        go_wp2
        go_ret
        refine ⟨_, _, rfl, HRk.out, by rw [List.length_map]; exact HYl.out, HO.out, HB.out⟩

end Go.Proofs.Ytnacobhhgeljoaa.crush
