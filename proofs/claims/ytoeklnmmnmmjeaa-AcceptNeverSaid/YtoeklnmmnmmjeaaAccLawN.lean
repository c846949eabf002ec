/- AcceptNever: whatever is asked, nothing is taken back. -/
import Derived.Test.YtoeklnmmnmmjeaaRows
import Derived.Test.YtoeklnmmnmmjeaaAccNevM
import Derived.Test.YtoeklnmmnmmjeaaAccTexts
import Derived.Test.YtoeklnmmnmmjeaaAccAwake
namespace Go.Proofs.Ytoeklnmmnmmjeaa.crush
open Go.RowKit
open Go.Proofs.Ytoeklnmmnmmjeaa.kit Go.Proofs.Ytoeklnmmnmmjeaa.own
set_option linter.unusedVariables false
set_option linter.unusedSimpArgs false

theorem far_row {α : Type} {enc : α → List Value} {k e B : Nat} {v : Value} {xs : List α} {N : Nat} (hN : ∀ g, v.ownBlock = some g → g ≠ N) : ∀ (vs : List Value) (o : Nat) {W : World} (h : Own enc k e W B v xs), Own enc k e (W.setCells N o vs) B v xs
  | [], _, _, h => h
  | u :: vs, o, _, h => far_row hN vs (o + 1) (h.setOther (fun e => hN N e rfl) o u)
theorem sl_take {W : World} {a : Option Addr} {cap : Nat} {xs : List ByteArray} (h : Sl tx 1 W (.slice a xs.length cap) xs) (n : Nat) (hn : n ≤ xs.length) : Sl tx 1 W (.slice a n cap) (xs.take n) := by
  obtain ⟨h1, a', c', he, h2, h3⟩ := h
  cases he
  have hl : (xs.take n).length = n := by rw [List.length_take]; omega
  refine ⟨by omega, a, cap, by rw [hl], h2, fun hp => ?_⟩
  rw [hl] at hp
  obtain ⟨b, off, rfl, hb, hc⟩ := h3 (by omega)
  refine ⟨b, off, rfl, hb, fun j hj => ?_⟩
  rw [hl] at hj
  have e : (xs.take n)[j]'(by rw [hl]; exact hj) = xs[j]'(by omega) := List.getElem_take
  rw [e]
  exact hc j (by omega)
/-- The acceptor of the law's loop. -/
structure NvS (w : World) (N : Nat) (a : AccV) (vo : Value) (W : World) : Prop where
  hN : N = w.heap.size
  bel : Below w.heap.size w W
  box : ABox W N a.pr a.pm a.has a.ar a.am a.val vo
  own : Own tx 1 9 W (N + 1) vo a.com
theorem NvS.keep {w : World} {N : Nat} {a : AccV} {vo : Value} {W W' : World} (h : NvS w N a vo W) (hb : Below W.heap.size W W') : NvS w N a vo W' := ⟨h.hN, h.bel.trans (hb.mono h.bel.size), h.box.keep hb, h.own.below hb⟩
/-- A round: the call's box, and the box of what comes of it. -/
structure RdS (w : World) (N X Y : Nat) (a : AccV) (vo : Value) (x : ActV) (b : AccV) (sb : Value) (W : World) : Prop where
  nv : NvS w N a vo W
  act : W.heap[X]? = some (.cells #[.int .i64 x.kind, .int .i64 x.r, .int .i64 x.m, .int .i64 x.ver, .string x.val, x.sl] 45 (0, 0))
  bb : ABox W Y b.pr b.pm b.has b.ar b.am b.val sb
  own : Own tx 1 9 W (N + 1) sb b.com
  hX : N < X
  hY : X < Y
section
variable {w : World} {N X Y : Nat} {a : AccV} {vo : Value} {x : ActV} {b : AccV} {sb : Value} {W W' : World}
theorem RdS.keep (h : RdS w N X Y a vo x b sb W) (hb : Below W.heap.size W W') : RdS w N X Y a vo x b sb W' :=
  ⟨h.nv.keep hb, (hb.block _ (Array.getElem?_eq_some_iff.1 h.act).1).trans h.act, h.bb.keep hb, h.own.below hb, h.hX, h.hY⟩
theorem RdS.acts (h : RdS w N X Y a vo x b sb W) : W.cell? ⟨X, 0, none⟩ = some (.int .i64 x.kind) ∧ W.cell? ⟨X, 1, none⟩ = some (.int .i64 x.r) ∧ W.cell? ⟨X, 2, none⟩ = some (.int .i64 x.m) ∧ W.cell? ⟨X, 3, none⟩ = some (.int .i64 x.ver) ∧ W.cell? ⟨X, 4, none⟩ = some (.string x.val) ∧ W.cell? ⟨X, 5, none⟩ = some x.sl := by
  have := h.act
  refine ⟨?_, ?_, ?_, ?_, ?_, ?_⟩ <;> simp [World.cell?, this]
/-- What a call has made is laid into its box. -/
theorem RdS.lay (h : RdS w N X Y a vo x b sb W) (b' : AccV) (s' : Value) (ho : Own tx 1 9 W (Y + 1) s' b'.com) :
    RdS w N X Y a vo x b' s' (W.setCells Y 0 [.int .i64 b'.pr, .int .i64 b'.pm, .bool b'.has, .int .i64 b'.ar, .int .i64 b'.am, .string b'.val, s']) := by
  have h1 := h.hX; have h2 := h.hY; have h3 := h.nv.hN
  have hne : ∀ g, vo.ownBlock = some g → g ≠ Y := fun g hg e => by
    obtain ⟨cur, hc⟩ : ∃ cur, W.heap[g]? = some (.cells cur 9 (0, 0)) := by
      rcases h.nv.own.at with ⟨rfl, -⟩ | ⟨g2, cap, rfl, -, hat⟩
      · cases hg
      · cases hg
        obtain ⟨cur, h4, -⟩ := hat.ex
        exact ⟨cur, h4⟩
    have h5 := h.bb
    rw [← e] at h5
    unfold ABox at h5
    rw [hc] at h5
    cases h5
  refine ⟨⟨h3, Below.setCells h.nv.bel (by omega) 0 _, (heap_setCells_other Y _ 0 W _ (by omega)).trans h.nv.box, ?_⟩, (heap_setCells_other Y _ 0 W _ (by omega)).trans h.act, h.bb.put _ _ _ _ _ _ _, (Own.farC (by omega) _ 0 ho).mono (by omega), h1, h2⟩
  exact far_row (fun g hg => hne g hg) _ 0 h.nv.own
end
theorem rds_new {w : World} {N X : Nat} {a : AccV} {vo : Value} {W : World} (h : NvS w N a vo W) (x : ActV) (hx : W.heap[X]? = some (.cells #[.int .i64 x.kind, .int .i64 x.r, .int .i64 x.m, .int .i64 x.ver, .string x.val, x.sl] 45 (0, 0))) (hX : N < X) : RdS w N X W.heap.size a vo x a vo (W.alloc (.cells #[.int .i64 a.pr, .int .i64 a.pm, .bool a.has, .int .i64 a.ar, .int .i64 a.am, .string a.val, vo] 26)) := by
  have hb := below_new W (.cells #[.int .i64 a.pr, .int .i64 a.pm, .bool a.has, .int .i64 a.ar, .int .i64 a.am, .string a.val, vo] 26)
  have hl := (Array.getElem?_eq_some_iff.1 hx).1
  exact ⟨h.keep hb, (hb.block _ hl).trans hx, alloc_at W _, (h.keep hb).own, hX, hl⟩
theorem own_cap {w : World} {e B n q : Nat} {p : Option Addr} {xs : List ByteArray} (h : Own tx 1 e w B (.slice p n q) xs) : n ≤ q := by
  rcases h.at with ⟨h1, -⟩ | ⟨g, cap, h1, -, h2⟩
  · cases h1; exact Nat.le_refl _
  · cases h1; exact h2.le
theorem RdS.next {w : World} {N X Y : Nat} {a : AccV} {vo : Value} {x : ActV} {b : AccV} {sb : Value} {W : World} (h : RdS w N X Y a vo x b sb W) : NvS w N b sb (W.setCells N 0 [.int .i64 b.pr, .int .i64 b.pm, .bool b.has, .int .i64 b.ar, .int .i64 b.am, .string b.val, sb]) :=
  ⟨h.nv.hN, Below.setCells h.nv.bel (Nat.le_of_eq h.nv.hN.symm) 0 _, h.nv.box.put _ _ _ _ _ _ _, Own.farC (Nat.lt_succ_self _) _ 0 h.own⟩
/-- What each call of the law hands back: the next acceptor, in memory of its own. -/
def StepS (u : World) (b : AccV) (e : Ending) (w' : World) : Prop := ∃ s q, e = .returned (.tuple #[b.agg s, q]) ∧ Own tx 1 9 w' u.heap.size s b.com ∧ Below u.heap.size u w'
theorem accE_com (a : AccV) (b : BalV) (n : Int) (t : ByteArray) : (accE a b n t).com = a.com := by
  unfold accE
  split
  · split
    · exact prepE_com a b
    · exact prepE_com a b
  · rfl
theorem step1 {a b : AccV} {x : ActV} (h : stepA a x = b) (hk : x.kind = 1) (hl : a.com.length ≤ 4096) {w : World} {N : Nat} {vo : Value} (u : World) (hu : NvS w N a vo u) : Calls Try.prog 9 #[a.agg vo, .agg #[.int .i64 x.r, .int .i64 x.m]] u (StepS u b) := by
  have e : prepE a ⟨x.r, x.m⟩ = b := by rw [← h]; unfold stepA; rw [if_pos hk]
  refine (Prepare_any _ a ⟨x.r, x.m⟩ u (own_accR hu.own) (by omega)).mono ?_
  rintro e2 w' ⟨s, rfl, ho, hb⟩
  rw [e]
  exact ⟨s, _, rfl, by rw [← e, prepE_com]; exact ho, hb⟩
theorem step2 {a b : AccV} {x : ActV} (h : stepA a x = b) (hk : x.kind = 2) (hl : a.com.length ≤ 4096) {w : World} {N : Nat} {vo : Value} (u : World) (hu : NvS w N a vo u) : Calls Try.prog 12 #[a.agg vo, .agg #[.int .i64 x.r, .int .i64 x.m], .int .i64 x.ver, .string x.val] u (StepS u b) := by
  have e : accE a ⟨x.r, x.m⟩ x.ver x.val = b := by rw [← h]; unfold stepA; rw [if_neg (by omega), if_pos hk]
  refine (Accept_any _ a ⟨x.r, x.m⟩ x.ver x.val u (own_accR hu.own) (by omega)).mono ?_
  rintro e2 w' ⟨s, rfl, ho, hb⟩
  rw [e]
  exact ⟨s, _, rfl, by rw [← e, accE_com]; exact ho, hb⟩
theorem step3 {a b : AccV} {x : ActV} (h : stepA a x = b) (hk : x.kind = 3) (hl : a.com.length ≤ 4096) {w : World} {N : Nat} {vo : Value} (hx : x.Ok w) (u : World) (hu : NvS w N a vo u) : Calls Try.prog 14 #[a.agg vo, .int .i64 x.ver, x.sl] u (StepS u b) := by
  have e : learnE a x.ver x.vals = b := by rw [← h]; unfold stepA; rw [if_neg (by omega), if_neg (by omega), if_pos hk]
  refine (Learn_any _ a x.ver x.sl x.vals u (own_accR hu.own) (by omega) hx.1 (hx.2.1.keep hu.bel) hx.2.2).mono ?_
  rintro e2 w' ⟨s, rfl, ho, hb⟩
  rw [e] at ho ⊢
  exact ⟨s, _, rfl, ho, hb⟩
theorem step0 {a b : AccV} {x : ActV} (h : stepA a x = b) (h1 : x.kind ≠ 1) (h2 : x.kind ≠ 2) (h3 : x.kind ≠ 3) : b = a := by
  rw [← h]; unfold stepA; rw [if_neg h1, if_neg h2, if_neg h3]

set_option maxHeartbeats 32000000 in
set_option maxRecDepth 100000 in
theorem walkNever (v : Value) (acts : List ActV) (w : World) (hs : Sl ac 6 w v acts) (hok : ∀ x ∈ acts, x.Ok w) : Calls Try.prog 4 #[v] w fun e w' => e = .returned (.bool true) ∧ Below w.heap.size w w' := by
  have HS := Lib.hid hs
  have HOk := Lib.hid hok
  obtain ⟨hl, a0, cap0, rfl, -, -⟩ := hs
  have hnv : NvS w w.heap.size awA0 (.slice none 0 0) (w.alloc (.cells #[.int .i64 0, .int .i64 0, .bool false, .int .i64 0, .int .i64 0, .string { data := #[] }, .slice none 0 0] 26)) := ⟨rfl, below_new w _, alloc_at w _, Own.nil _ _ _⟩
  have HNv := Lib.hid hnv
  have HO0 : Hid (okA awA0 = true) := Lib.hid (by decide +kernel)
  obtain ⟨L, hL⟩ : ∃ L, acts.length = L := ⟨_, rfl⟩
  have HLn := Lib.hid hL
  rw [hL] at hl HS ⊢
  have mixed : Try.prog.follows .mixedOrders = true := by kernel_rfl
  clear hok hnv hL
  go_enter Try.func4, Try.ntmps4
  go_upto_region 2 with fail
  generalize w.alloc _ = W0 at HNv ⊢
  obtain ⟨N, hN⟩ : ∃ N, w.heap.size = N := ⟨_, rfl⟩
  rw [hN] at HNv ⊢
  go_wp2
  go_loopw [10] (fun vi wr => ∃ (k : Nat) (a : AccV) (vo : Value), k ≤ L ∧ vi = .int .i64 k ∧ Hid (NvS w N a vo wr) ∧ Hid (okA a = true)) (fun i _ => L - (intOf i).toNat)
  case atStart => exact ⟨0, awA0, _, by omega, rfl, HNv, HO0⟩
  case round =>
    obtain ⟨k, a, vo, hk, rfl, HA, HOa⟩ := hrel
    by_cases hlt : k < L
    · have hlt' : (k : Int) < L := by omega
      have hk0 : (0 : Int) ≤ k := by omega
      have hi : k < acts.length := by rw [HLn.out]; exact hlt
      obtain ⟨_, a', cap', he, -, hcell⟩ := HS.out.keep (by have := HA.out.bel; exact this)
      rw [HLn.out] at he
      cases he
      obtain ⟨bb, off, rfl, hbl, hcell⟩ := hcell (by omega)
      have hr := hcell k hi
      obtain ⟨x, hx⟩ : ∃ x, acts[k] = x := ⟨_, rfl⟩
      have HXo : Hid (x.Ok w) := Lib.hid (HOk.out x (by rw [← hx]; exact List.getElem_mem hi))
      rw [hx] at hr
      obtain ⟨kind, r, m, ver, val, sl, vals⟩ := x
      obtain ⟨px, cx, hsl⟩ : ∃ p c, sl = .slice p vals.length c := by obtain ⟨_, _, p, c, h, _⟩ := HXo.out; exact ⟨p, c, h⟩
      subst hsl
      have HK := Lib.hid (step_keeps HOa.out ⟨kind, r, m, ver, val, .slice px vals.length cx, vals⟩)
      obtain ⟨b, hb⟩ : ∃ b, stepA a ⟨kind, r, m, ver, val, .slice px vals.length cx, vals⟩ = b := ⟨_, rfl⟩
      have HSt := Lib.hid hb
      rw [hb] at HK
      have HAl : Hid (a.com.length ≤ 4096) := Lib.hid ((okCom_iff _).1 ((okA_iff a).1 HOa.out).2.2).1
      obtain ⟨av, ac0, rfl⟩ := HA.out.own.slice
      have g0 : wr.cell? ⟨bb, off + k * 6, none⟩ = some (.int .i64 kind) := hr 0 _ rfl
      have g1 : wr.cell? ⟨bb, off + k * 6 + 1, none⟩ = some (.int .i64 r) := hr 1 _ rfl
      have g2 : wr.cell? ⟨bb, off + k * 6 + 2, none⟩ = some (.int .i64 m) := hr 2 _ rfl
      have g3 : wr.cell? ⟨bb, off + k * 6 + 3, none⟩ = some (.int .i64 ver) := hr 3 _ rfl
      have g4 : wr.cell? ⟨bb, off + k * 6 + 4, none⟩ = some (.string val) := hr 4 _ rfl
      have g5 : wr.cell? ⟨bb, off + k * 6 + 5, none⟩ = some (.slice px vals.length cx) := hr 5 _ rfl
      obtain ⟨c0, c1, c2, c3, c4, c5, c6⟩ := HA.out.box.cells
      clear hr hcell hbl hx hb
      go_upto_region 5 with fail
      have HA1 := Lib.hid (HA.out.keep (below_new wr (.cells #[.int .i64 kind, .int .i64 r, .int .i64 m, .int .i64 ver, .string val, .slice px vals.length cx] 45)))
      have HAct := Lib.hid (alloc_at wr (.cells #[.int .i64 kind, .int .i64 r, .int .i64 m, .int .i64 ver, .string val, .slice px vals.length cx] 45))
      have HNX := Lib.hid HA.out.box.lt
      generalize wr.alloc _ = W1 at HA1 HAct ⊢
      generalize wr.heap.size = X at HAct HNX ⊢
      clear c0 c1 c2 c3 c4 c5 c6 g0 g1 g2 g3 g4 g5
      obtain ⟨c0, c1, c2, c3, c4, c5, c6⟩ := HA1.out.box.cells
      go_upto_region 6 with fail
      have HR2 := Lib.hid (rds_new HA1.out ⟨kind, r, m, ver, val, .slice px vals.length cx, vals⟩ HAct.out HNX.out)
      generalize W1.alloc _ = W2 at HR2 ⊢
      generalize W1.heap.size = Y at HR2 ⊢
      clear c0 c1 c2 c3 c4 c5 c6
      have HC1 : Hid (kind = 1 → ∀ u, NvS w N a (.slice av a.com.length ac0) u → _) := Lib.hid (fun h => step1 HSt.out h HAl.out)
      have HC2 : Hid (kind = 2 → ∀ u, NvS w N a (.slice av a.com.length ac0) u → _) := Lib.hid (fun h => step2 HSt.out h HAl.out)
      have HC3 : Hid (kind = 3 → ∀ u, NvS w N a (.slice av a.com.length ac0) u → _) := Lib.hid (fun h => step3 HSt.out h HAl.out HXo.out)
      have HC0 : Hid (kind ≠ 1 → kind ≠ 2 → kind ≠ 3 → b = a) := Lib.hid (step0 HSt.out)
      unfold StepS AccV.agg at HC1 HC2 HC3
      obtain ⟨La, hLa⟩ : ∃ n, a.com.length = n := ⟨_, rfl⟩
      obtain ⟨Lb, hLb⟩ : ∃ n, b.com.length = n := ⟨_, rfl⟩
      have HLa := Lib.hid hLa; have HLb := Lib.hid hLb
      rw [hLa] at HC1 HC2 HC3 HR2 HA HAl
      clear hLa hLb HSt
      obtain ⟨ar, am, ah, aa, an, av1, ac1⟩ := a
      obtain ⟨br, bm, bh, ba, bn, bv, bc⟩ := b
      simp only at HC1 HC2 HC3 HC0 HLa HLb
      obtain ⟨c0, c1, c2, c3, c4, c5, c6⟩ := HR2.out.nv.box.cells
      obtain ⟨g0, g1, g2, g3, g4, g5⟩ := HR2.out.acts
      simp only at c0 c1 c2 c3 c4 c5 c6 g0 g1 g2 g3 g4 g5
      have HJ : Hid (RdS w N X Y ⟨ar, am, ah, aa, an, av1, ac1⟩ (.slice av La ac0) ⟨kind, r, m, ver, val, .slice px vals.length cx, vals⟩ ⟨ar, am, ah, aa, an, av1, ac1⟩ (.slice av La ac0) W2) := HR2
      have hLL : La ≤ Lb := by have h := HK.out.le; rw [← HLa.out, ← HLb.out]; exact h
      have hnl : ¬ Lb < La := by omega
      have hnl2 : ¬ (Lb : Int) < (La : Int) := by omega
      have HFt : Hid (∀ p q u, Own tx 1 9 u (N + 1) (.slice p Lb q) bc → Calls Try.prog 21 #[.agg #[.int .i64 br, .int .i64 bm, .bool bh, .int .i64 ba, .int .i64 bn, .string bv, .slice p Lb q]] u fun e w' => e = .returned (.bool true) ∧ Below u.heap.size u w') := Lib.hid (fun p q u h => by
        have h2 := Fit_any (AccV.agg ⟨br, bm, bh, ba, bn, bv, bc⟩ (.slice p Lb q)) ⟨br, bm, bh, ba, bn, bv, bc⟩ u (own_accR (a := ⟨br, bm, bh, ba, bn, bv, bc⟩) h)
        rw [HK.out.ok] at h2
        exact h2)
      have HLt : Hid (∀ u, Calls Try.prog 22 #[.agg #[.int .i64 ar, .int .i64 am], .agg #[.int .i64 br, .int .i64 bm]] u fun e w' => e = .returned (.bool false) ∧ Below u.heap.size u w') := Lib.hid (fun u => by
        have h2 := Later_any ar am br bm u
        rw [show laterB ar am br bm = false from HK.out.pr] at h2
        exact h2)
      have HLu : Hid (ah = true → Lb = La → bh = true ∧ ∀ u, Calls Try.prog 22 #[.agg #[.int .i64 aa, .int .i64 an], .agg #[.int .i64 ba, .int .i64 bn]] u fun e w' => e = .returned (.bool false) ∧ Below u.heap.size u w') := Lib.hid (fun h1 h2 => by
        obtain ⟨h3, h4⟩ := HK.out.stay h1 (by show bc.length = ac1.length; rw [HLa.out, HLb.out]; exact h2)
        refine ⟨h3, fun u => ?_⟩
        have h5 := Later_any aa an ba bn u
        rw [show laterB aa an ba bn = false from h4] at h5
        exact h5)
      have HTx : Hid (∀ p q p2 q2 u, Own tx 1 9 u (N + 1) (.slice p Lb q) bc → Own tx 1 9 u (N + 1) (.slice p2 La q2) ac1 → Calls Try.prog 18 #[.slice p La q, .slice p2 La q2] u fun e w' => e = .returned (.bool true) ∧ Below u.heap.size u w') := Lib.hid (fun p q p2 q2 u h1 h2 => by
        have h3 := h1.read tx_len
        rw [← HLb.out] at h3
        have h4 := Texts_any _ _ _ _ u (sl_take h3 La (by rw [HLb.out]; exact hLL)) (h2.read tx_len)
        have h5 : bc.take La = ac1 := by have h6 := HK.out.com; rw [← HLa.out]; exact h6
        rw [decide_eq_true h5] at h4
        exact h4)
      rcases (show kind = 1 ∨ kind = 2 ∨ kind = 3 ∨ (¬ kind = 1 ∧ ¬ kind = 2 ∧ ¬ kind = 3) by omega) with rfl | rfl | rfl | ⟨n1, n2, n3⟩
      · have HC := Lib.hid (HC1.out rfl)
        clear HC1 HC2 HC3 HC0
        go_upto_region 13 with (first
          | (go_at_call 9; refine (HC.out _ HR2.out.nv).mono ?_; rintro e w3 ⟨s3, q3, rfl, ho, hb⟩; obtain ⟨bx, by', rfl⟩ := ho.slice; rw [HLb.out] at ho ⊢; have HR3 := Lib.hid (HR2.out.keep hb); have HO3 := Lib.hid (ho.mono (show Y + 1 ≤ _ from HR2.out.bb.lt)); clear ho hb c0 c1 c2 c3 c4 c5 c6 g0 g1 g2 g3 g4 g5)
          | (refine wpList_store_mid rfl 26 _ _ rfl Y 0 #[.int .i64 br, .int .i64 bm, .bool bh, .int .i64 ba, .int .i64 bn, .string bv, .slice bx Lb by'] rfl rfl HR3.out.bb.there sizeAcc (acc_one _ _ _ _ _ _ _ _ _) ?_))
        have HR : Hid (RdS w N X Y ⟨ar, am, ah, aa, an, av1, ac1⟩ (.slice av La ac0) _ ⟨br, bm, bh, ba, bn, bv, bc⟩ (.slice bx Lb by') (w3.setCells Y 0 [.int .i64 br, .int .i64 bm, .bool bh, .int .i64 ba, .int .i64 bn, .string bv, .slice bx Lb by'])) := Lib.hid (HR3.out.lay ⟨br, bm, bh, ba, bn, bv, bc⟩ (.slice bx Lb by') HO3.out)
        generalize w3.setCells Y 0 _ = W4 at HR ⊢
        --R13a
        have hcap := own_cap HR.out.own
        have hLc : La ≤ by' := by omega
        have HR := Lib.hid (HR.out.keep (below_drew (Below.refl _ _)))
        refine wp_region_held_drew (S := fun u => (u.cell? ⟨N, 0, none⟩ = some (.int .i64 ar) ∧ u.cell? ⟨N, 1, none⟩ = some (.int .i64 am) ∧ u.cell? ⟨N, 2, none⟩ = some (.bool ah) ∧ u.cell? ⟨N, 3, none⟩ = some (.int .i64 aa) ∧ u.cell? ⟨N, 4, none⟩ = some (.int .i64 an) ∧ u.cell? ⟨N, 5, none⟩ = some (.string av1) ∧ u.cell? ⟨N, 6, none⟩ = some (.slice av La ac0)) ∧ (u.cell? ⟨Y, 0, none⟩ = some (.int .i64 br) ∧ u.cell? ⟨Y, 1, none⟩ = some (.int .i64 bm) ∧ u.cell? ⟨Y, 2, none⟩ = some (.bool bh) ∧ u.cell? ⟨Y, 3, none⟩ = some (.int .i64 ba) ∧ u.cell? ⟨Y, 4, none⟩ = some (.int .i64 bn) ∧ u.cell? ⟨Y, 5, none⟩ = some (.string bv) ∧ u.cell? ⟨Y, 6, none⟩ = some (.slice bx Lb by'))) (by kernel_rfl) (⟨HR.out.nv.box.cells, HR.out.bb.cells⟩) (fun hHeld => ?_)
        generalize World.drew _ = W at *
        refine wpAnyH_take (i := 0) (oi := { dst := some 50, op := Op.load 26 (Operand.tmp 6), type := 26, pos := "law.go:63", after := #[], guard := none }) (v := ?_) rfl (by kernel_rfl) (by kernel_rfl) (by kernel_rfl) (fun _ _ _ h => h) (Or.inl ⟨by rfl, ?_⟩) hHeld ?_
        rotate_left 1
        · intro W hSw
          (try dsimp only at hSw)
          go_simp
          try with_reducible rfl
        try simp only [Act.put, List.setIfInBounds_toArray, List.set_cons_zero, List.set_cons_succ]
        refine wpAnyH_ready (rs := [1]) (by kernel_rfl) (by simp) ?_
        refine AllReadyH.cons (o := { dst := some 51, op := Op.call { callee := Callee.value (Operand.func 21), args := #[Operand.tmp 50], argTypes := #[26] }, type := 4, pos := "law.go:63", after := #[{ on := 0, ground := Ground.data }], guard := none }) rfl (fun K7 hK7 => ?_) ?_
        · go_simp
          refine (HFt.out _ _ _ HR.out.own).mono ?_
          rintro e V ⟨rfl, hb⟩
          have HR := Lib.hid (HR.out.keep hb)
          clear hb
          obtain ⟨W, rfl⟩ : ∃ U, U = V := ⟨_, rfl⟩
          try dsimp only
          refine hK7.out _ _ (⟨HR.out.nv.box.cells, HR.out.bb.cells⟩) (fun hHeld => ?_)
          clear hK7 K7
          try simp only [Act.put, List.setIfInBounds_toArray, List.set_cons_zero, List.set_cons_succ]
          refine wpAnyH_take (i := 2) (oi := { dst := some 52, op := Op.unOp UnOp.not 4 (Operand.tmp 51), type := 4, pos := "law.go:63", after := #[{ on := 1, ground := Ground.data }], guard := none }) (v := ?_) rfl (by kernel_rfl) (by kernel_rfl) (by kernel_rfl) (fun _ _ _ h => h) (Or.inl ⟨by rfl, ?_⟩) hHeld ?_
          rotate_left 1
          · intro W hSw
            (try dsimp only at hSw)
            go_simp
            try with_reducible rfl
          try simp only [Act.put, List.setIfInBounds_toArray, List.set_cons_zero, List.set_cons_succ]
          refine wpAnyH_take (i := 3) (oi := { dst := some 53, op := Op.move (Operand.tmp 52), type := 4, pos := "law.go:63", after := #[{ on := 2, ground := Ground.data }, { on := 1, ground := Ground.chain }], guard := none }) (v := ?_) rfl (by kernel_rfl) (by kernel_rfl) (by kernel_rfl) (fun _ _ _ h => h) (Or.inl ⟨by rfl, ?_⟩) hHeld ?_
          rotate_left 1
          · intro W hSw
            (try dsimp only at hSw)
            go_simp
            try with_reducible rfl
          try simp only [Act.put, List.setIfInBounds_toArray, List.set_cons_zero, List.set_cons_succ]
          refine wpAnyH_take (i := 4) (oi := { dst := some 54, op := Op.fieldAddr 26 (Operand.tmp 3) 0, type := 0, pos := "law.go:63", after := #[{ on := 3, ground := Ground.guard }], guard := some (3, false) }) (v := ?_) rfl (by kernel_rfl) (by kernel_rfl) (by kernel_rfl) (fun _ _ _ h => h) (Or.inl ⟨by rfl, ?_⟩) hHeld ?_
          rotate_left 1
          · intro W hSw
            (try dsimp only at hSw)
            go_simp
            try with_reducible rfl
          try simp only [Act.put, List.setIfInBounds_toArray, List.set_cons_zero, List.set_cons_succ]
          refine wpAnyH_take (i := 5) (oi := { dst := some 55, op := Op.load 23 (Operand.tmp 54), type := 23, pos := "law.go:63", after := #[{ on := 4, ground := Ground.data }, { on := 3, ground := Ground.guard }], guard := some (3, false) }) (v := ?_) rfl (by kernel_rfl) (by kernel_rfl) (by kernel_rfl) (fun _ _ _ h => h) (Or.inl ⟨by rfl, ?_⟩) hHeld ?_
          rotate_left 1
          · intro W hSw
            (try dsimp only at hSw)
            go_simp
            try with_reducible rfl
          try simp only [Act.put, List.setIfInBounds_toArray, List.set_cons_zero, List.set_cons_succ]
          refine wpAnyH_take (i := 6) (oi := { dst := some 56, op := Op.fieldAddr 26 (Operand.tmp 6) 0, type := 0, pos := "law.go:63", after := #[{ on := 3, ground := Ground.guard }], guard := some (3, false) }) (v := ?_) rfl (by kernel_rfl) (by kernel_rfl) (by kernel_rfl) (fun _ _ _ h => h) (Or.inl ⟨by rfl, ?_⟩) hHeld ?_
          rotate_left 1
          · intro W hSw
            (try dsimp only at hSw)
            go_simp
            try with_reducible rfl
          try simp only [Act.put, List.setIfInBounds_toArray, List.set_cons_zero, List.set_cons_succ]
          refine wpAnyH_take (i := 7) (oi := { dst := some 57, op := Op.load 23 (Operand.tmp 56), type := 23, pos := "law.go:63", after := #[{ on := 6, ground := Ground.data }, { on := 3, ground := Ground.guard }], guard := some (3, false) }) (v := ?_) rfl (by kernel_rfl) (by kernel_rfl) (by kernel_rfl) (fun _ _ _ h => h) (Or.inl ⟨by rfl, ?_⟩) hHeld ?_
          rotate_left 1
          · intro W hSw
            (try dsimp only at hSw)
            go_simp
            try with_reducible rfl
          try simp only [Act.put, List.setIfInBounds_toArray, List.set_cons_zero, List.set_cons_succ]
          refine wpAnyH_ready (rs := [8]) (by kernel_rfl) (by simp) ?_
          refine AllReadyH.cons (o := { dst := some 58, op := Op.call { callee := Callee.value (Operand.func 22), args := #[Operand.tmp 55, Operand.tmp 57], argTypes := #[23, 23] }, type := 4, pos := "law.go:63", after := #[{ on := 5, ground := Ground.data }, { on := 7, ground := Ground.data }, { on := 3, ground := Ground.chain }, { on := 3, ground := Ground.guard }], guard := some (3, false) }) rfl (fun K7 hK7 => ?_) ?_
          · go_simp
            refine (HLt.out _).mono ?_
            rintro e V ⟨rfl, hb⟩
            have HR := Lib.hid (HR.out.keep hb)
            clear hb
            obtain ⟨W, rfl⟩ : ∃ U, U = V := ⟨_, rfl⟩
            try dsimp only
            refine hK7.out _ _ (⟨HR.out.nv.box.cells, HR.out.bb.cells⟩) (fun hHeld => ?_)
            clear hK7 K7
            try simp only [Act.put, List.setIfInBounds_toArray, List.set_cons_zero, List.set_cons_succ]
            refine wpAnyH_take (i := 9) (oi := { dst := some 59, op := Op.pick (Operand.tmp 53) (Operand.const (Value.bool true)) (Operand.tmp 58), type := 4, pos := "law.go:63", after := #[{ on := 3, ground := Ground.data }, { on := 8, ground := Ground.data }], guard := none }) (v := ?_) rfl (by kernel_rfl) (by kernel_rfl) (by kernel_rfl) (fun _ _ _ h => h) (Or.inl ⟨by rfl, ?_⟩) hHeld ?_
            rotate_left 1
            · intro W hSw
              (try dsimp only at hSw)
              go_simp
              try with_reducible rfl
            try simp only [Act.put, List.setIfInBounds_toArray, List.set_cons_zero, List.set_cons_succ]
            refine wpAnyH_take (i := 10) (oi := { dst := some 60, op := Op.move (Operand.tmp 59), type := 4, pos := "law.go:63", after := #[{ on := 9, ground := Ground.data }, { on := 8, ground := Ground.chain }], guard := none }) (v := ?_) rfl (by kernel_rfl) (by kernel_rfl) (by kernel_rfl) (fun _ _ _ h => h) (Or.inl ⟨by rfl, ?_⟩) hHeld ?_
            rotate_left 1
            · intro W hSw
              (try dsimp only at hSw)
              go_simp
              try with_reducible rfl
            try simp only [Act.put, List.setIfInBounds_toArray, List.set_cons_zero, List.set_cons_succ]
            refine wpAnyH_take (i := 11) (oi := { dst := some 61, op := Op.fieldAddr 26 (Operand.tmp 6) 4, type := 0, pos := "law.go:63", after := #[{ on := 10, ground := Ground.guard }], guard := some (10, false) }) (v := ?_) rfl (by kernel_rfl) (by kernel_rfl) (by kernel_rfl) (fun _ _ _ h => h) (Or.inl ⟨by rfl, ?_⟩) hHeld ?_
            rotate_left 1
            · intro W hSw
              (try dsimp only at hSw)
              go_simp
              try with_reducible rfl
            try simp only [Act.put, List.setIfInBounds_toArray, List.set_cons_zero, List.set_cons_succ]
            refine wpAnyH_take (i := 12) (oi := { dst := some 62, op := Op.load 24 (Operand.tmp 61), type := 24, pos := "law.go:63", after := #[{ on := 11, ground := Ground.data }, { on := 10, ground := Ground.guard }], guard := some (10, false) }) (v := ?_) rfl (by kernel_rfl) (by kernel_rfl) (by kernel_rfl) (fun _ _ _ h => h) (Or.inl ⟨by rfl, ?_⟩) hHeld ?_
            rotate_left 1
            · intro W hSw
              (try dsimp only at hSw)
              go_simp
              try with_reducible rfl
            try simp only [Act.put, List.setIfInBounds_toArray, List.set_cons_zero, List.set_cons_succ]
            refine wpAnyH_take (i := 13) (oi := { dst := some 63, op := Op.call { callee := Callee.builtin Builtin.len, args := #[Operand.tmp 62], argTypes := #[24] }, type := 3, pos := "law.go:63", after := #[{ on := 12, ground := Ground.data }, { on := 10, ground := Ground.guard }], guard := some (10, false) }) (v := ?_) rfl (by kernel_rfl) (by kernel_rfl) (by kernel_rfl) (fun _ _ _ h => h) (Or.inl ⟨by rfl, ?_⟩) hHeld ?_
            rotate_left 1
            · intro W hSw
              (try dsimp only at hSw)
              go_simp
              try with_reducible rfl
            try simp only [Act.put, List.setIfInBounds_toArray, List.set_cons_zero, List.set_cons_succ]
            refine wpAnyH_take (i := 14) (oi := { dst := some 64, op := Op.fieldAddr 26 (Operand.tmp 3) 4, type := 0, pos := "law.go:63", after := #[{ on := 10, ground := Ground.guard }], guard := some (10, false) }) (v := ?_) rfl (by kernel_rfl) (by kernel_rfl) (by kernel_rfl) (fun _ _ _ h => h) (Or.inl ⟨by rfl, ?_⟩) hHeld ?_
            rotate_left 1
            · intro W hSw
              (try dsimp only at hSw)
              go_simp
              try with_reducible rfl
            try simp only [Act.put, List.setIfInBounds_toArray, List.set_cons_zero, List.set_cons_succ]
            refine wpAnyH_take (i := 15) (oi := { dst := some 65, op := Op.load 24 (Operand.tmp 64), type := 24, pos := "law.go:63", after := #[{ on := 14, ground := Ground.data }, { on := 10, ground := Ground.guard }], guard := some (10, false) }) (v := ?_) rfl (by kernel_rfl) (by kernel_rfl) (by kernel_rfl) (fun _ _ _ h => h) (Or.inl ⟨by rfl, ?_⟩) hHeld ?_
            rotate_left 1
            · intro W hSw
              (try dsimp only at hSw)
              go_simp
              try with_reducible rfl
            try simp only [Act.put, List.setIfInBounds_toArray, List.set_cons_zero, List.set_cons_succ]
            refine wpAnyH_take (i := 16) (oi := { dst := some 66, op := Op.call { callee := Callee.builtin Builtin.len, args := #[Operand.tmp 65], argTypes := #[24] }, type := 3, pos := "law.go:63", after := #[{ on := 15, ground := Ground.data }, { on := 10, ground := Ground.guard }], guard := some (10, false) }) (v := ?_) rfl (by kernel_rfl) (by kernel_rfl) (by kernel_rfl) (fun _ _ _ h => h) (Or.inl ⟨by rfl, ?_⟩) hHeld ?_
            rotate_left 1
            · intro W hSw
              (try dsimp only at hSw)
              go_simp
              try with_reducible rfl
            try simp only [Act.put, List.setIfInBounds_toArray, List.set_cons_zero, List.set_cons_succ]
            refine wpAnyH_take (i := 17) (oi := { dst := some 67, op := Op.binOp BinOp.lss 3 (Operand.tmp 63) (Operand.tmp 66) 3, type := 4, pos := "law.go:63", after := #[{ on := 13, ground := Ground.data }, { on := 16, ground := Ground.data }, { on := 10, ground := Ground.guard }], guard := some (10, false) }) (v := ?_) rfl (by kernel_rfl) (by kernel_rfl) (by kernel_rfl) (fun _ _ _ h => h) (Or.inl ⟨by rfl, ?_⟩) hHeld ?_
            rotate_left 1
            · intro W hSw
              (try dsimp only at hSw)
              go_simp
              try with_reducible rfl
            try simp only [Act.put, List.setIfInBounds_toArray, List.set_cons_zero, List.set_cons_succ]
            refine wpAnyH_take (i := 18) (oi := { dst := some 68, op := Op.pick (Operand.tmp 60) (Operand.const (Value.bool true)) (Operand.tmp 67), type := 4, pos := "law.go:63", after := #[{ on := 10, ground := Ground.data }, { on := 17, ground := Ground.data }], guard := none }) (v := ?_) rfl (by kernel_rfl) (by kernel_rfl) (by kernel_rfl) (fun _ _ _ h => h) (Or.inl ⟨by rfl, ?_⟩) hHeld ?_
            rotate_left 1
            · intro W hSw
              (try dsimp only at hSw)
              go_simp
              try with_reducible rfl
            try simp only [Act.put, List.setIfInBounds_toArray, List.set_cons_zero, List.set_cons_succ]
            refine wpAnyH_take (i := 19) (oi := { dst := some 69, op := Op.move (Operand.tmp 68), type := 4, pos := "law.go:63", after := #[{ on := 18, ground := Ground.data }, { on := 10, ground := Ground.chain }], guard := none }) (v := ?_) rfl (by kernel_rfl) (by kernel_rfl) (by kernel_rfl) (fun _ _ _ h => h) (Or.inl ⟨by rfl, ?_⟩) hHeld ?_
            rotate_left 1
            · intro W hSw
              (try dsimp only at hSw)
              go_simp
              try with_reducible rfl
            try simp only [Act.put, List.setIfInBounds_toArray, List.set_cons_zero, List.set_cons_succ]
            refine wpAnyH_take (i := 20) (oi := { dst := some 70, op := Op.fieldAddr 26 (Operand.tmp 6) 4, type := 0, pos := "law.go:63", after := #[{ on := 19, ground := Ground.guard }], guard := some (19, false) }) (v := ?_) rfl (by kernel_rfl) (by kernel_rfl) (by kernel_rfl) (fun _ _ _ h => h) (Or.inl ⟨by rfl, ?_⟩) hHeld ?_
            rotate_left 1
            · intro W hSw
              (try dsimp only at hSw)
              go_simp
              try with_reducible rfl
            try simp only [Act.put, List.setIfInBounds_toArray, List.set_cons_zero, List.set_cons_succ]
            refine wpAnyH_take (i := 21) (oi := { dst := some 71, op := Op.load 24 (Operand.tmp 70), type := 24, pos := "law.go:63", after := #[{ on := 20, ground := Ground.data }, { on := 19, ground := Ground.guard }], guard := some (19, false) }) (v := ?_) rfl (by kernel_rfl) (by kernel_rfl) (by kernel_rfl) (fun _ _ _ h => h) (Or.inl ⟨by rfl, ?_⟩) hHeld ?_
            rotate_left 1
            · intro W hSw
              (try dsimp only at hSw)
              go_simp
              try with_reducible rfl
            try simp only [Act.put, List.setIfInBounds_toArray, List.set_cons_zero, List.set_cons_succ]
            refine wpAnyH_take (i := 22) (oi := { dst := some 72, op := Op.fieldAddr 26 (Operand.tmp 3) 4, type := 0, pos := "law.go:63", after := #[{ on := 19, ground := Ground.guard }], guard := some (19, false) }) (v := ?_) rfl (by kernel_rfl) (by kernel_rfl) (by kernel_rfl) (fun _ _ _ h => h) (Or.inl ⟨by rfl, ?_⟩) hHeld ?_
            rotate_left 1
            · intro W hSw
              (try dsimp only at hSw)
              go_simp
              try with_reducible rfl
            try simp only [Act.put, List.setIfInBounds_toArray, List.set_cons_zero, List.set_cons_succ]
            refine wpAnyH_take (i := 23) (oi := { dst := some 73, op := Op.load 24 (Operand.tmp 72), type := 24, pos := "law.go:63", after := #[{ on := 22, ground := Ground.data }, { on := 19, ground := Ground.guard }], guard := some (19, false) }) (v := ?_) rfl (by kernel_rfl) (by kernel_rfl) (by kernel_rfl) (fun _ _ _ h => h) (Or.inl ⟨by rfl, ?_⟩) hHeld ?_
            rotate_left 1
            · intro W hSw
              (try dsimp only at hSw)
              go_simp
              try with_reducible rfl
            try simp only [Act.put, List.setIfInBounds_toArray, List.set_cons_zero, List.set_cons_succ]
            refine wpAnyH_take (i := 24) (oi := { dst := some 74, op := Op.call { callee := Callee.builtin Builtin.len, args := #[Operand.tmp 73], argTypes := #[24] }, type := 3, pos := "law.go:63", after := #[{ on := 23, ground := Ground.data }, { on := 19, ground := Ground.guard }], guard := some (19, false) }) (v := ?_) rfl (by kernel_rfl) (by kernel_rfl) (by kernel_rfl) (fun _ _ _ h => h) (Or.inl ⟨by rfl, ?_⟩) hHeld ?_
            rotate_left 1
            · intro W hSw
              (try dsimp only at hSw)
              go_simp
              try with_reducible rfl
            try simp only [Act.put, List.setIfInBounds_toArray, List.set_cons_zero, List.set_cons_succ]
            refine wpAnyH_take (i := 25) (oi := { dst := some 75, op := Op.slice 24 (Operand.tmp 71) none (some (Operand.tmp 74)) none, type := 24, pos := "law.go:63", after := #[{ on := 21, ground := Ground.data }, { on := 24, ground := Ground.data }, { on := 19, ground := Ground.guard }], guard := some (19, false) }) (v := ?_) rfl (by kernel_rfl) (by kernel_rfl) (by kernel_rfl) (fun _ _ _ h => h) (Or.inl ⟨by rfl, ?_⟩) hHeld ?_
            rotate_left 1
            · intro W hSw
              (try dsimp only at hSw)
              go_simp
              try with_reducible rfl
            try simp only [Act.put, List.setIfInBounds_toArray, List.set_cons_zero, List.set_cons_succ]
            refine wpAnyH_take (i := 26) (oi := { dst := some 76, op := Op.fieldAddr 26 (Operand.tmp 3) 4, type := 0, pos := "law.go:63", after := #[{ on := 19, ground := Ground.guard }], guard := some (19, false) }) (v := ?_) rfl (by kernel_rfl) (by kernel_rfl) (by kernel_rfl) (fun _ _ _ h => h) (Or.inl ⟨by rfl, ?_⟩) hHeld ?_
            rotate_left 1
            · intro W hSw
              (try dsimp only at hSw)
              go_simp
              try with_reducible rfl
            try simp only [Act.put, List.setIfInBounds_toArray, List.set_cons_zero, List.set_cons_succ]
            refine wpAnyH_take (i := 27) (oi := { dst := some 77, op := Op.load 24 (Operand.tmp 76), type := 24, pos := "law.go:63", after := #[{ on := 26, ground := Ground.data }, { on := 19, ground := Ground.guard }], guard := some (19, false) }) (v := ?_) rfl (by kernel_rfl) (by kernel_rfl) (by kernel_rfl) (fun _ _ _ h => h) (Or.inl ⟨by rfl, ?_⟩) hHeld ?_
            rotate_left 1
            · intro W hSw
              (try dsimp only at hSw)
              go_simp
              try with_reducible rfl
            try simp only [Act.put, List.setIfInBounds_toArray, List.set_cons_zero, List.set_cons_succ]
            refine wpAnyH_ready (rs := [28]) (by kernel_rfl) (by simp) ?_
            refine AllReadyH.cons (o := { dst := some 78, op := Op.call { callee := Callee.value (Operand.func 18), args := #[Operand.tmp 75, Operand.tmp 77], argTypes := #[24, 24] }, type := 4, pos := "law.go:63", after := #[{ on := 25, ground := Ground.data }, { on := 27, ground := Ground.data }, { on := 19, ground := Ground.chain }, { on := 19, ground := Ground.guard }], guard := some (19, false) }) rfl (fun K7 hK7 => ?_) ?_
            · go_simp
              refine (HTx.out _ _ _ _ _ HR.out.own HR.out.nv.own).mono ?_
              rintro e V ⟨rfl, hb⟩
              have HR := Lib.hid (HR.out.keep hb)
              clear hb
              obtain ⟨W, rfl⟩ : ∃ U, U = V := ⟨_, rfl⟩
              try dsimp only
              refine hK7.out _ _ (⟨HR.out.nv.box.cells, HR.out.bb.cells⟩) (fun hHeld => ?_)
              clear hK7 K7
              try simp only [Act.put, List.setIfInBounds_toArray, List.set_cons_zero, List.set_cons_succ]
              refine wpAnyH_take (i := 29) (oi := { dst := some 79, op := Op.unOp UnOp.not 4 (Operand.tmp 78), type := 4, pos := "law.go:63", after := #[{ on := 28, ground := Ground.data }, { on := 19, ground := Ground.guard }], guard := some (19, false) }) (v := ?_) rfl (by kernel_rfl) (by kernel_rfl) (by kernel_rfl) (fun _ _ _ h => h) (Or.inl ⟨by rfl, ?_⟩) hHeld ?_
              rotate_left 1
              · intro W hSw
                (try dsimp only at hSw)
                go_simp
                try with_reducible rfl
              try simp only [Act.put, List.setIfInBounds_toArray, List.set_cons_zero, List.set_cons_succ]
              refine wpAnyH_take (i := 30) (oi := { dst := some 80, op := Op.pick (Operand.tmp 69) (Operand.const (Value.bool true)) (Operand.tmp 79), type := 4, pos := "law.go:63", after := #[{ on := 19, ground := Ground.data }, { on := 29, ground := Ground.data }], guard := none }) (v := ?_) rfl (by kernel_rfl) (by kernel_rfl) (by kernel_rfl) (fun _ _ _ h => h) (Or.inl ⟨by rfl, ?_⟩) hHeld ?_
              rotate_left 1
              · intro W hSw
                (try dsimp only at hSw)
                go_simp
                try with_reducible rfl
              try simp only [Act.put, List.setIfInBounds_toArray, List.set_cons_zero, List.set_cons_succ]
              refine wpAnyH_done (by kernel_rfl) ?_ _
              clear hHeld
              go_upto_region 15 with fail
              obtain ⟨c0, c1, c2, c3, c4, c5, c6⟩ := HR.out.nv.box.cells
              obtain ⟨b0, b1, b2, b3, b4, b5, b6⟩ := HR.out.bb.cells
              simp only at c0 c1 c2 c3 c4 c5 c6 b0 b1 b2 b3 b4 b5 b6
              cases ah with
              | false =>
                go_upto_region 17 with fail
                go_upto_region 18 with (refine wpList_store_mid rfl 26 _ _ rfl N 0 #[.int .i64 br, .int .i64 bm, .bool bh, .int .i64 ba, .int .i64 bn, .string bv, .slice bx Lb by'] rfl rfl HR.out.nv.box.there sizeAcc (acc_one _ _ _ _ _ _ _ _ _) ?_)
                have HN9 : Hid (NvS w N ⟨br, bm, bh, ba, bn, bv, bc⟩ (.slice bx Lb by') (W.setCells N 0 [.int .i64 br, .int .i64 bm, .bool bh, .int .i64 ba, .int .i64 bn, .string bv, .slice bx Lb by'])) := Lib.hid HR.out.next
                clear c0 c1 c2 c3 c4 c5 c6 b0 b1 b2 b3 b4 b5 b6
                generalize W.setCells N 0 _ = W9 at HN9 ⊢
                go_wp2
                go_roundw
                case rel => exact ⟨k + 1, ⟨br, bm, bh, ba, bn, bv, bc⟩, .slice bx Lb by', by omega, by go_num, HN9, Lib.hid HK.out.ok⟩
                case measure => simp [intOf]; omega
              | true =>
                by_cases hle : Lb = La
                · obtain ⟨hbh, hlu⟩ := HLu.out rfl hle
                  have HLw := Lib.hid hlu
                  subst hbh
                  have hle2 : True → ((Lb : Int) == (La : Int)) = true := fun _ => by simp [hle]
                  clear hlu hle
                  go_upto_region 17 with (go_at_call 22; refine (HLw.out _).mono ?_; rintro e V ⟨rfl, hb⟩; have HR := Lib.hid (HR.out.keep hb); clear hb c0 c1 c2 c3 c4 c5 c6 b0 b1 b2 b3 b4 b5 b6)
                  obtain ⟨W, rfl⟩ : ∃ U, U = V := ⟨_, rfl⟩
                  obtain ⟨c0, c1, c2, c3, c4, c5, c6⟩ := HR.out.nv.box.cells
                  obtain ⟨b0, b1, b2, b3, b4, b5, b6⟩ := HR.out.bb.cells
                  simp only at c0 c1 c2 c3 c4 c5 c6 b0 b1 b2 b3 b4 b5 b6
                  go_upto_region 18 with (refine wpList_store_mid rfl 26 _ _ rfl N 0 #[.int .i64 br, .int .i64 bm, .bool true, .int .i64 ba, .int .i64 bn, .string bv, .slice bx Lb by'] rfl rfl HR.out.nv.box.there sizeAcc (acc_one _ _ _ _ _ _ _ _ _) ?_)
                  have HN9 : Hid (NvS w N ⟨br, bm, true, ba, bn, bv, bc⟩ (.slice bx Lb by') (W.setCells N 0 [.int .i64 br, .int .i64 bm, .bool true, .int .i64 ba, .int .i64 bn, .string bv, .slice bx Lb by'])) := Lib.hid HR.out.next
                  clear c0 c1 c2 c3 c4 c5 c6 b0 b1 b2 b3 b4 b5 b6
                  generalize W.setCells N 0 _ = W9 at HN9 ⊢
                  go_wp2
                  go_roundw
                  case rel => exact ⟨k + 1, ⟨br, bm, true, ba, bn, bv, bc⟩, .slice bx Lb by', by omega, by go_num, HN9, Lib.hid HK.out.ok⟩
                  case measure => simp [intOf]; omega
                · have hle2 : True → ((Lb : Int) == (La : Int)) = false := fun _ => by simp; omega
                  go_upto_region 17 with fail
                  go_upto_region 18 with (refine wpList_store_mid rfl 26 _ _ rfl N 0 #[.int .i64 br, .int .i64 bm, .bool bh, .int .i64 ba, .int .i64 bn, .string bv, .slice bx Lb by'] rfl rfl HR.out.nv.box.there sizeAcc (acc_one _ _ _ _ _ _ _ _ _) ?_)
                  have HN9 : Hid (NvS w N ⟨br, bm, bh, ba, bn, bv, bc⟩ (.slice bx Lb by') (W.setCells N 0 [.int .i64 br, .int .i64 bm, .bool bh, .int .i64 ba, .int .i64 bn, .string bv, .slice bx Lb by'])) := Lib.hid HR.out.next
                  clear c0 c1 c2 c3 c4 c5 c6 b0 b1 b2 b3 b4 b5 b6
                  generalize W.setCells N 0 _ = W9 at HN9 ⊢
                  go_wp2
                  go_roundw
                  case rel => exact ⟨k + 1, ⟨br, bm, bh, ba, bn, bv, bc⟩, .slice bx Lb by', by omega, by go_num, HN9, Lib.hid HK.out.ok⟩
                  case measure => simp [intOf]; omega
            exact AllReadyH.nil
          exact AllReadyH.nil
        exact AllReadyH.nil
        --R13aE
      · have HC := Lib.hid (HC2.out rfl)
        clear HC1 HC2 HC3 HC0
        go_upto_region 13 with (first
          | (go_at_call 12; refine (HC.out _ HR2.out.nv).mono ?_; rintro e w3 ⟨s3, q3, rfl, ho, hb⟩; obtain ⟨bx, by', rfl⟩ := ho.slice; rw [HLb.out] at ho ⊢; have HR3 := Lib.hid (HR2.out.keep hb); have HO3 := Lib.hid (ho.mono (show Y + 1 ≤ _ from HR2.out.bb.lt)); clear ho hb c0 c1 c2 c3 c4 c5 c6 g0 g1 g2 g3 g4 g5)
          | (refine wpList_store_mid rfl 26 _ _ rfl Y 0 #[.int .i64 br, .int .i64 bm, .bool bh, .int .i64 ba, .int .i64 bn, .string bv, .slice bx Lb by'] rfl rfl HR3.out.bb.there sizeAcc (acc_one _ _ _ _ _ _ _ _ _) ?_))
        have HR : Hid (RdS w N X Y ⟨ar, am, ah, aa, an, av1, ac1⟩ (.slice av La ac0) _ ⟨br, bm, bh, ba, bn, bv, bc⟩ (.slice bx Lb by') (w3.setCells Y 0 [.int .i64 br, .int .i64 bm, .bool bh, .int .i64 ba, .int .i64 bn, .string bv, .slice bx Lb by'])) := Lib.hid (HR3.out.lay ⟨br, bm, bh, ba, bn, bv, bc⟩ (.slice bx Lb by') HO3.out)
        generalize w3.setCells Y 0 _ = W4 at HR ⊢
        --R13b
        have hcap := own_cap HR.out.own
        have hLc : La ≤ by' := by omega
        have HR := Lib.hid (HR.out.keep (below_drew (Below.refl _ _)))
        refine wp_region_held_drew (S := fun u => (u.cell? ⟨N, 0, none⟩ = some (.int .i64 ar) ∧ u.cell? ⟨N, 1, none⟩ = some (.int .i64 am) ∧ u.cell? ⟨N, 2, none⟩ = some (.bool ah) ∧ u.cell? ⟨N, 3, none⟩ = some (.int .i64 aa) ∧ u.cell? ⟨N, 4, none⟩ = some (.int .i64 an) ∧ u.cell? ⟨N, 5, none⟩ = some (.string av1) ∧ u.cell? ⟨N, 6, none⟩ = some (.slice av La ac0)) ∧ (u.cell? ⟨Y, 0, none⟩ = some (.int .i64 br) ∧ u.cell? ⟨Y, 1, none⟩ = some (.int .i64 bm) ∧ u.cell? ⟨Y, 2, none⟩ = some (.bool bh) ∧ u.cell? ⟨Y, 3, none⟩ = some (.int .i64 ba) ∧ u.cell? ⟨Y, 4, none⟩ = some (.int .i64 bn) ∧ u.cell? ⟨Y, 5, none⟩ = some (.string bv) ∧ u.cell? ⟨Y, 6, none⟩ = some (.slice bx Lb by'))) (by kernel_rfl) (⟨HR.out.nv.box.cells, HR.out.bb.cells⟩) (fun hHeld => ?_)
        generalize World.drew _ = W at *
        refine wpAnyH_take (i := 0) (oi := { dst := some 50, op := Op.load 26 (Operand.tmp 6), type := 26, pos := "law.go:63", after := #[], guard := none }) (v := ?_) rfl (by kernel_rfl) (by kernel_rfl) (by kernel_rfl) (fun _ _ _ h => h) (Or.inl ⟨by rfl, ?_⟩) hHeld ?_
        rotate_left 1
        · intro W hSw
          (try dsimp only at hSw)
          go_simp
          try with_reducible rfl
        try simp only [Act.put, List.setIfInBounds_toArray, List.set_cons_zero, List.set_cons_succ]
        refine wpAnyH_ready (rs := [1]) (by kernel_rfl) (by simp) ?_
        refine AllReadyH.cons (o := { dst := some 51, op := Op.call { callee := Callee.value (Operand.func 21), args := #[Operand.tmp 50], argTypes := #[26] }, type := 4, pos := "law.go:63", after := #[{ on := 0, ground := Ground.data }], guard := none }) rfl (fun K7 hK7 => ?_) ?_
        · go_simp
          refine (HFt.out _ _ _ HR.out.own).mono ?_
          rintro e V ⟨rfl, hb⟩
          have HR := Lib.hid (HR.out.keep hb)
          clear hb
          obtain ⟨W, rfl⟩ : ∃ U, U = V := ⟨_, rfl⟩
          try dsimp only
          refine hK7.out _ _ (⟨HR.out.nv.box.cells, HR.out.bb.cells⟩) (fun hHeld => ?_)
          clear hK7 K7
          try simp only [Act.put, List.setIfInBounds_toArray, List.set_cons_zero, List.set_cons_succ]
          refine wpAnyH_take (i := 2) (oi := { dst := some 52, op := Op.unOp UnOp.not 4 (Operand.tmp 51), type := 4, pos := "law.go:63", after := #[{ on := 1, ground := Ground.data }], guard := none }) (v := ?_) rfl (by kernel_rfl) (by kernel_rfl) (by kernel_rfl) (fun _ _ _ h => h) (Or.inl ⟨by rfl, ?_⟩) hHeld ?_
          rotate_left 1
          · intro W hSw
            (try dsimp only at hSw)
            go_simp
            try with_reducible rfl
          try simp only [Act.put, List.setIfInBounds_toArray, List.set_cons_zero, List.set_cons_succ]
          refine wpAnyH_take (i := 3) (oi := { dst := some 53, op := Op.move (Operand.tmp 52), type := 4, pos := "law.go:63", after := #[{ on := 2, ground := Ground.data }, { on := 1, ground := Ground.chain }], guard := none }) (v := ?_) rfl (by kernel_rfl) (by kernel_rfl) (by kernel_rfl) (fun _ _ _ h => h) (Or.inl ⟨by rfl, ?_⟩) hHeld ?_
          rotate_left 1
          · intro W hSw
            (try dsimp only at hSw)
            go_simp
            try with_reducible rfl
          try simp only [Act.put, List.setIfInBounds_toArray, List.set_cons_zero, List.set_cons_succ]
          refine wpAnyH_take (i := 4) (oi := { dst := some 54, op := Op.fieldAddr 26 (Operand.tmp 3) 0, type := 0, pos := "law.go:63", after := #[{ on := 3, ground := Ground.guard }], guard := some (3, false) }) (v := ?_) rfl (by kernel_rfl) (by kernel_rfl) (by kernel_rfl) (fun _ _ _ h => h) (Or.inl ⟨by rfl, ?_⟩) hHeld ?_
          rotate_left 1
          · intro W hSw
            (try dsimp only at hSw)
            go_simp
            try with_reducible rfl
          try simp only [Act.put, List.setIfInBounds_toArray, List.set_cons_zero, List.set_cons_succ]
          refine wpAnyH_take (i := 5) (oi := { dst := some 55, op := Op.load 23 (Operand.tmp 54), type := 23, pos := "law.go:63", after := #[{ on := 4, ground := Ground.data }, { on := 3, ground := Ground.guard }], guard := some (3, false) }) (v := ?_) rfl (by kernel_rfl) (by kernel_rfl) (by kernel_rfl) (fun _ _ _ h => h) (Or.inl ⟨by rfl, ?_⟩) hHeld ?_
          rotate_left 1
          · intro W hSw
            (try dsimp only at hSw)
            go_simp
            try with_reducible rfl
          try simp only [Act.put, List.setIfInBounds_toArray, List.set_cons_zero, List.set_cons_succ]
          refine wpAnyH_take (i := 6) (oi := { dst := some 56, op := Op.fieldAddr 26 (Operand.tmp 6) 0, type := 0, pos := "law.go:63", after := #[{ on := 3, ground := Ground.guard }], guard := some (3, false) }) (v := ?_) rfl (by kernel_rfl) (by kernel_rfl) (by kernel_rfl) (fun _ _ _ h => h) (Or.inl ⟨by rfl, ?_⟩) hHeld ?_
          rotate_left 1
          · intro W hSw
            (try dsimp only at hSw)
            go_simp
            try with_reducible rfl
          try simp only [Act.put, List.setIfInBounds_toArray, List.set_cons_zero, List.set_cons_succ]
          refine wpAnyH_take (i := 7) (oi := { dst := some 57, op := Op.load 23 (Operand.tmp 56), type := 23, pos := "law.go:63", after := #[{ on := 6, ground := Ground.data }, { on := 3, ground := Ground.guard }], guard := some (3, false) }) (v := ?_) rfl (by kernel_rfl) (by kernel_rfl) (by kernel_rfl) (fun _ _ _ h => h) (Or.inl ⟨by rfl, ?_⟩) hHeld ?_
          rotate_left 1
          · intro W hSw
            (try dsimp only at hSw)
            go_simp
            try with_reducible rfl
          try simp only [Act.put, List.setIfInBounds_toArray, List.set_cons_zero, List.set_cons_succ]
          refine wpAnyH_ready (rs := [8]) (by kernel_rfl) (by simp) ?_
          refine AllReadyH.cons (o := { dst := some 58, op := Op.call { callee := Callee.value (Operand.func 22), args := #[Operand.tmp 55, Operand.tmp 57], argTypes := #[23, 23] }, type := 4, pos := "law.go:63", after := #[{ on := 5, ground := Ground.data }, { on := 7, ground := Ground.data }, { on := 3, ground := Ground.chain }, { on := 3, ground := Ground.guard }], guard := some (3, false) }) rfl (fun K7 hK7 => ?_) ?_
          · go_simp
            refine (HLt.out _).mono ?_
            rintro e V ⟨rfl, hb⟩
            have HR := Lib.hid (HR.out.keep hb)
            clear hb
            obtain ⟨W, rfl⟩ : ∃ U, U = V := ⟨_, rfl⟩
            try dsimp only
            refine hK7.out _ _ (⟨HR.out.nv.box.cells, HR.out.bb.cells⟩) (fun hHeld => ?_)
            clear hK7 K7
            try simp only [Act.put, List.setIfInBounds_toArray, List.set_cons_zero, List.set_cons_succ]
            refine wpAnyH_take (i := 9) (oi := { dst := some 59, op := Op.pick (Operand.tmp 53) (Operand.const (Value.bool true)) (Operand.tmp 58), type := 4, pos := "law.go:63", after := #[{ on := 3, ground := Ground.data }, { on := 8, ground := Ground.data }], guard := none }) (v := ?_) rfl (by kernel_rfl) (by kernel_rfl) (by kernel_rfl) (fun _ _ _ h => h) (Or.inl ⟨by rfl, ?_⟩) hHeld ?_
            rotate_left 1
            · intro W hSw
              (try dsimp only at hSw)
              go_simp
              try with_reducible rfl
            try simp only [Act.put, List.setIfInBounds_toArray, List.set_cons_zero, List.set_cons_succ]
            refine wpAnyH_take (i := 10) (oi := { dst := some 60, op := Op.move (Operand.tmp 59), type := 4, pos := "law.go:63", after := #[{ on := 9, ground := Ground.data }, { on := 8, ground := Ground.chain }], guard := none }) (v := ?_) rfl (by kernel_rfl) (by kernel_rfl) (by kernel_rfl) (fun _ _ _ h => h) (Or.inl ⟨by rfl, ?_⟩) hHeld ?_
            rotate_left 1
            · intro W hSw
              (try dsimp only at hSw)
              go_simp
              try with_reducible rfl
            try simp only [Act.put, List.setIfInBounds_toArray, List.set_cons_zero, List.set_cons_succ]
            refine wpAnyH_take (i := 11) (oi := { dst := some 61, op := Op.fieldAddr 26 (Operand.tmp 6) 4, type := 0, pos := "law.go:63", after := #[{ on := 10, ground := Ground.guard }], guard := some (10, false) }) (v := ?_) rfl (by kernel_rfl) (by kernel_rfl) (by kernel_rfl) (fun _ _ _ h => h) (Or.inl ⟨by rfl, ?_⟩) hHeld ?_
            rotate_left 1
            · intro W hSw
              (try dsimp only at hSw)
              go_simp
              try with_reducible rfl
            try simp only [Act.put, List.setIfInBounds_toArray, List.set_cons_zero, List.set_cons_succ]
            refine wpAnyH_take (i := 12) (oi := { dst := some 62, op := Op.load 24 (Operand.tmp 61), type := 24, pos := "law.go:63", after := #[{ on := 11, ground := Ground.data }, { on := 10, ground := Ground.guard }], guard := some (10, false) }) (v := ?_) rfl (by kernel_rfl) (by kernel_rfl) (by kernel_rfl) (fun _ _ _ h => h) (Or.inl ⟨by rfl, ?_⟩) hHeld ?_
            rotate_left 1
            · intro W hSw
              (try dsimp only at hSw)
              go_simp
              try with_reducible rfl
            try simp only [Act.put, List.setIfInBounds_toArray, List.set_cons_zero, List.set_cons_succ]
            refine wpAnyH_take (i := 13) (oi := { dst := some 63, op := Op.call { callee := Callee.builtin Builtin.len, args := #[Operand.tmp 62], argTypes := #[24] }, type := 3, pos := "law.go:63", after := #[{ on := 12, ground := Ground.data }, { on := 10, ground := Ground.guard }], guard := some (10, false) }) (v := ?_) rfl (by kernel_rfl) (by kernel_rfl) (by kernel_rfl) (fun _ _ _ h => h) (Or.inl ⟨by rfl, ?_⟩) hHeld ?_
            rotate_left 1
            · intro W hSw
              (try dsimp only at hSw)
              go_simp
              try with_reducible rfl
            try simp only [Act.put, List.setIfInBounds_toArray, List.set_cons_zero, List.set_cons_succ]
            refine wpAnyH_take (i := 14) (oi := { dst := some 64, op := Op.fieldAddr 26 (Operand.tmp 3) 4, type := 0, pos := "law.go:63", after := #[{ on := 10, ground := Ground.guard }], guard := some (10, false) }) (v := ?_) rfl (by kernel_rfl) (by kernel_rfl) (by kernel_rfl) (fun _ _ _ h => h) (Or.inl ⟨by rfl, ?_⟩) hHeld ?_
            rotate_left 1
            · intro W hSw
              (try dsimp only at hSw)
              go_simp
              try with_reducible rfl
            try simp only [Act.put, List.setIfInBounds_toArray, List.set_cons_zero, List.set_cons_succ]
            refine wpAnyH_take (i := 15) (oi := { dst := some 65, op := Op.load 24 (Operand.tmp 64), type := 24, pos := "law.go:63", after := #[{ on := 14, ground := Ground.data }, { on := 10, ground := Ground.guard }], guard := some (10, false) }) (v := ?_) rfl (by kernel_rfl) (by kernel_rfl) (by kernel_rfl) (fun _ _ _ h => h) (Or.inl ⟨by rfl, ?_⟩) hHeld ?_
            rotate_left 1
            · intro W hSw
              (try dsimp only at hSw)
              go_simp
              try with_reducible rfl
            try simp only [Act.put, List.setIfInBounds_toArray, List.set_cons_zero, List.set_cons_succ]
            refine wpAnyH_take (i := 16) (oi := { dst := some 66, op := Op.call { callee := Callee.builtin Builtin.len, args := #[Operand.tmp 65], argTypes := #[24] }, type := 3, pos := "law.go:63", after := #[{ on := 15, ground := Ground.data }, { on := 10, ground := Ground.guard }], guard := some (10, false) }) (v := ?_) rfl (by kernel_rfl) (by kernel_rfl) (by kernel_rfl) (fun _ _ _ h => h) (Or.inl ⟨by rfl, ?_⟩) hHeld ?_
            rotate_left 1
            · intro W hSw
              (try dsimp only at hSw)
              go_simp
              try with_reducible rfl
            try simp only [Act.put, List.setIfInBounds_toArray, List.set_cons_zero, List.set_cons_succ]
            refine wpAnyH_take (i := 17) (oi := { dst := some 67, op := Op.binOp BinOp.lss 3 (Operand.tmp 63) (Operand.tmp 66) 3, type := 4, pos := "law.go:63", after := #[{ on := 13, ground := Ground.data }, { on := 16, ground := Ground.data }, { on := 10, ground := Ground.guard }], guard := some (10, false) }) (v := ?_) rfl (by kernel_rfl) (by kernel_rfl) (by kernel_rfl) (fun _ _ _ h => h) (Or.inl ⟨by rfl, ?_⟩) hHeld ?_
            rotate_left 1
            · intro W hSw
              (try dsimp only at hSw)
              go_simp
              try with_reducible rfl
            try simp only [Act.put, List.setIfInBounds_toArray, List.set_cons_zero, List.set_cons_succ]
            refine wpAnyH_take (i := 18) (oi := { dst := some 68, op := Op.pick (Operand.tmp 60) (Operand.const (Value.bool true)) (Operand.tmp 67), type := 4, pos := "law.go:63", after := #[{ on := 10, ground := Ground.data }, { on := 17, ground := Ground.data }], guard := none }) (v := ?_) rfl (by kernel_rfl) (by kernel_rfl) (by kernel_rfl) (fun _ _ _ h => h) (Or.inl ⟨by rfl, ?_⟩) hHeld ?_
            rotate_left 1
            · intro W hSw
              (try dsimp only at hSw)
              go_simp
              try with_reducible rfl
            try simp only [Act.put, List.setIfInBounds_toArray, List.set_cons_zero, List.set_cons_succ]
            refine wpAnyH_take (i := 19) (oi := { dst := some 69, op := Op.move (Operand.tmp 68), type := 4, pos := "law.go:63", after := #[{ on := 18, ground := Ground.data }, { on := 10, ground := Ground.chain }], guard := none }) (v := ?_) rfl (by kernel_rfl) (by kernel_rfl) (by kernel_rfl) (fun _ _ _ h => h) (Or.inl ⟨by rfl, ?_⟩) hHeld ?_
            rotate_left 1
            · intro W hSw
              (try dsimp only at hSw)
              go_simp
              try with_reducible rfl
            try simp only [Act.put, List.setIfInBounds_toArray, List.set_cons_zero, List.set_cons_succ]
            refine wpAnyH_take (i := 20) (oi := { dst := some 70, op := Op.fieldAddr 26 (Operand.tmp 6) 4, type := 0, pos := "law.go:63", after := #[{ on := 19, ground := Ground.guard }], guard := some (19, false) }) (v := ?_) rfl (by kernel_rfl) (by kernel_rfl) (by kernel_rfl) (fun _ _ _ h => h) (Or.inl ⟨by rfl, ?_⟩) hHeld ?_
            rotate_left 1
            · intro W hSw
              (try dsimp only at hSw)
              go_simp
              try with_reducible rfl
            try simp only [Act.put, List.setIfInBounds_toArray, List.set_cons_zero, List.set_cons_succ]
            refine wpAnyH_take (i := 21) (oi := { dst := some 71, op := Op.load 24 (Operand.tmp 70), type := 24, pos := "law.go:63", after := #[{ on := 20, ground := Ground.data }, { on := 19, ground := Ground.guard }], guard := some (19, false) }) (v := ?_) rfl (by kernel_rfl) (by kernel_rfl) (by kernel_rfl) (fun _ _ _ h => h) (Or.inl ⟨by rfl, ?_⟩) hHeld ?_
            rotate_left 1
            · intro W hSw
              (try dsimp only at hSw)
              go_simp
              try with_reducible rfl
            try simp only [Act.put, List.setIfInBounds_toArray, List.set_cons_zero, List.set_cons_succ]
            refine wpAnyH_take (i := 22) (oi := { dst := some 72, op := Op.fieldAddr 26 (Operand.tmp 3) 4, type := 0, pos := "law.go:63", after := #[{ on := 19, ground := Ground.guard }], guard := some (19, false) }) (v := ?_) rfl (by kernel_rfl) (by kernel_rfl) (by kernel_rfl) (fun _ _ _ h => h) (Or.inl ⟨by rfl, ?_⟩) hHeld ?_
            rotate_left 1
            · intro W hSw
              (try dsimp only at hSw)
              go_simp
              try with_reducible rfl
            try simp only [Act.put, List.setIfInBounds_toArray, List.set_cons_zero, List.set_cons_succ]
            refine wpAnyH_take (i := 23) (oi := { dst := some 73, op := Op.load 24 (Operand.tmp 72), type := 24, pos := "law.go:63", after := #[{ on := 22, ground := Ground.data }, { on := 19, ground := Ground.guard }], guard := some (19, false) }) (v := ?_) rfl (by kernel_rfl) (by kernel_rfl) (by kernel_rfl) (fun _ _ _ h => h) (Or.inl ⟨by rfl, ?_⟩) hHeld ?_
            rotate_left 1
            · intro W hSw
              (try dsimp only at hSw)
              go_simp
              try with_reducible rfl
            try simp only [Act.put, List.setIfInBounds_toArray, List.set_cons_zero, List.set_cons_succ]
            refine wpAnyH_take (i := 24) (oi := { dst := some 74, op := Op.call { callee := Callee.builtin Builtin.len, args := #[Operand.tmp 73], argTypes := #[24] }, type := 3, pos := "law.go:63", after := #[{ on := 23, ground := Ground.data }, { on := 19, ground := Ground.guard }], guard := some (19, false) }) (v := ?_) rfl (by kernel_rfl) (by kernel_rfl) (by kernel_rfl) (fun _ _ _ h => h) (Or.inl ⟨by rfl, ?_⟩) hHeld ?_
            rotate_left 1
            · intro W hSw
              (try dsimp only at hSw)
              go_simp
              try with_reducible rfl
            try simp only [Act.put, List.setIfInBounds_toArray, List.set_cons_zero, List.set_cons_succ]
            refine wpAnyH_take (i := 25) (oi := { dst := some 75, op := Op.slice 24 (Operand.tmp 71) none (some (Operand.tmp 74)) none, type := 24, pos := "law.go:63", after := #[{ on := 21, ground := Ground.data }, { on := 24, ground := Ground.data }, { on := 19, ground := Ground.guard }], guard := some (19, false) }) (v := ?_) rfl (by kernel_rfl) (by kernel_rfl) (by kernel_rfl) (fun _ _ _ h => h) (Or.inl ⟨by rfl, ?_⟩) hHeld ?_
            rotate_left 1
            · intro W hSw
              (try dsimp only at hSw)
              go_simp
              try with_reducible rfl
            try simp only [Act.put, List.setIfInBounds_toArray, List.set_cons_zero, List.set_cons_succ]
            refine wpAnyH_take (i := 26) (oi := { dst := some 76, op := Op.fieldAddr 26 (Operand.tmp 3) 4, type := 0, pos := "law.go:63", after := #[{ on := 19, ground := Ground.guard }], guard := some (19, false) }) (v := ?_) rfl (by kernel_rfl) (by kernel_rfl) (by kernel_rfl) (fun _ _ _ h => h) (Or.inl ⟨by rfl, ?_⟩) hHeld ?_
            rotate_left 1
            · intro W hSw
              (try dsimp only at hSw)
              go_simp
              try with_reducible rfl
            try simp only [Act.put, List.setIfInBounds_toArray, List.set_cons_zero, List.set_cons_succ]
            refine wpAnyH_take (i := 27) (oi := { dst := some 77, op := Op.load 24 (Operand.tmp 76), type := 24, pos := "law.go:63", after := #[{ on := 26, ground := Ground.data }, { on := 19, ground := Ground.guard }], guard := some (19, false) }) (v := ?_) rfl (by kernel_rfl) (by kernel_rfl) (by kernel_rfl) (fun _ _ _ h => h) (Or.inl ⟨by rfl, ?_⟩) hHeld ?_
            rotate_left 1
            · intro W hSw
              (try dsimp only at hSw)
              go_simp
              try with_reducible rfl
            try simp only [Act.put, List.setIfInBounds_toArray, List.set_cons_zero, List.set_cons_succ]
            refine wpAnyH_ready (rs := [28]) (by kernel_rfl) (by simp) ?_
            refine AllReadyH.cons (o := { dst := some 78, op := Op.call { callee := Callee.value (Operand.func 18), args := #[Operand.tmp 75, Operand.tmp 77], argTypes := #[24, 24] }, type := 4, pos := "law.go:63", after := #[{ on := 25, ground := Ground.data }, { on := 27, ground := Ground.data }, { on := 19, ground := Ground.chain }, { on := 19, ground := Ground.guard }], guard := some (19, false) }) rfl (fun K7 hK7 => ?_) ?_
            · go_simp
              refine (HTx.out _ _ _ _ _ HR.out.own HR.out.nv.own).mono ?_
              rintro e V ⟨rfl, hb⟩
              have HR := Lib.hid (HR.out.keep hb)
              clear hb
              obtain ⟨W, rfl⟩ : ∃ U, U = V := ⟨_, rfl⟩
              try dsimp only
              refine hK7.out _ _ (⟨HR.out.nv.box.cells, HR.out.bb.cells⟩) (fun hHeld => ?_)
              clear hK7 K7
              try simp only [Act.put, List.setIfInBounds_toArray, List.set_cons_zero, List.set_cons_succ]
              refine wpAnyH_take (i := 29) (oi := { dst := some 79, op := Op.unOp UnOp.not 4 (Operand.tmp 78), type := 4, pos := "law.go:63", after := #[{ on := 28, ground := Ground.data }, { on := 19, ground := Ground.guard }], guard := some (19, false) }) (v := ?_) rfl (by kernel_rfl) (by kernel_rfl) (by kernel_rfl) (fun _ _ _ h => h) (Or.inl ⟨by rfl, ?_⟩) hHeld ?_
              rotate_left 1
              · intro W hSw
                (try dsimp only at hSw)
                go_simp
                try with_reducible rfl
              try simp only [Act.put, List.setIfInBounds_toArray, List.set_cons_zero, List.set_cons_succ]
              refine wpAnyH_take (i := 30) (oi := { dst := some 80, op := Op.pick (Operand.tmp 69) (Operand.const (Value.bool true)) (Operand.tmp 79), type := 4, pos := "law.go:63", after := #[{ on := 19, ground := Ground.data }, { on := 29, ground := Ground.data }], guard := none }) (v := ?_) rfl (by kernel_rfl) (by kernel_rfl) (by kernel_rfl) (fun _ _ _ h => h) (Or.inl ⟨by rfl, ?_⟩) hHeld ?_
              rotate_left 1
              · intro W hSw
                (try dsimp only at hSw)
                go_simp
                try with_reducible rfl
              try simp only [Act.put, List.setIfInBounds_toArray, List.set_cons_zero, List.set_cons_succ]
              refine wpAnyH_done (by kernel_rfl) ?_ _
              clear hHeld
              go_upto_region 15 with fail
              obtain ⟨c0, c1, c2, c3, c4, c5, c6⟩ := HR.out.nv.box.cells
              obtain ⟨b0, b1, b2, b3, b4, b5, b6⟩ := HR.out.bb.cells
              simp only at c0 c1 c2 c3 c4 c5 c6 b0 b1 b2 b3 b4 b5 b6
              cases ah with
              | false =>
                go_upto_region 17 with fail
                go_upto_region 18 with (refine wpList_store_mid rfl 26 _ _ rfl N 0 #[.int .i64 br, .int .i64 bm, .bool bh, .int .i64 ba, .int .i64 bn, .string bv, .slice bx Lb by'] rfl rfl HR.out.nv.box.there sizeAcc (acc_one _ _ _ _ _ _ _ _ _) ?_)
                have HN9 : Hid (NvS w N ⟨br, bm, bh, ba, bn, bv, bc⟩ (.slice bx Lb by') (W.setCells N 0 [.int .i64 br, .int .i64 bm, .bool bh, .int .i64 ba, .int .i64 bn, .string bv, .slice bx Lb by'])) := Lib.hid HR.out.next
                clear c0 c1 c2 c3 c4 c5 c6 b0 b1 b2 b3 b4 b5 b6
                generalize W.setCells N 0 _ = W9 at HN9 ⊢
                go_wp2
                go_roundw
                case rel => exact ⟨k + 1, ⟨br, bm, bh, ba, bn, bv, bc⟩, .slice bx Lb by', by omega, by go_num, HN9, Lib.hid HK.out.ok⟩
                case measure => simp [intOf]; omega
              | true =>
                by_cases hle : Lb = La
                · obtain ⟨hbh, hlu⟩ := HLu.out rfl hle
                  have HLw := Lib.hid hlu
                  subst hbh
                  have hle2 : True → ((Lb : Int) == (La : Int)) = true := fun _ => by simp [hle]
                  clear hlu hle
                  go_upto_region 17 with (go_at_call 22; refine (HLw.out _).mono ?_; rintro e V ⟨rfl, hb⟩; have HR := Lib.hid (HR.out.keep hb); clear hb c0 c1 c2 c3 c4 c5 c6 b0 b1 b2 b3 b4 b5 b6)
                  obtain ⟨W, rfl⟩ : ∃ U, U = V := ⟨_, rfl⟩
                  obtain ⟨c0, c1, c2, c3, c4, c5, c6⟩ := HR.out.nv.box.cells
                  obtain ⟨b0, b1, b2, b3, b4, b5, b6⟩ := HR.out.bb.cells
                  simp only at c0 c1 c2 c3 c4 c5 c6 b0 b1 b2 b3 b4 b5 b6
                  go_upto_region 18 with (refine wpList_store_mid rfl 26 _ _ rfl N 0 #[.int .i64 br, .int .i64 bm, .bool true, .int .i64 ba, .int .i64 bn, .string bv, .slice bx Lb by'] rfl rfl HR.out.nv.box.there sizeAcc (acc_one _ _ _ _ _ _ _ _ _) ?_)
                  have HN9 : Hid (NvS w N ⟨br, bm, true, ba, bn, bv, bc⟩ (.slice bx Lb by') (W.setCells N 0 [.int .i64 br, .int .i64 bm, .bool true, .int .i64 ba, .int .i64 bn, .string bv, .slice bx Lb by'])) := Lib.hid HR.out.next
                  clear c0 c1 c2 c3 c4 c5 c6 b0 b1 b2 b3 b4 b5 b6
                  generalize W.setCells N 0 _ = W9 at HN9 ⊢
                  go_wp2
                  go_roundw
                  case rel => exact ⟨k + 1, ⟨br, bm, true, ba, bn, bv, bc⟩, .slice bx Lb by', by omega, by go_num, HN9, Lib.hid HK.out.ok⟩
                  case measure => simp [intOf]; omega
                · have hle2 : True → ((Lb : Int) == (La : Int)) = false := fun _ => by simp; omega
                  go_upto_region 17 with fail
                  go_upto_region 18 with (refine wpList_store_mid rfl 26 _ _ rfl N 0 #[.int .i64 br, .int .i64 bm, .bool bh, .int .i64 ba, .int .i64 bn, .string bv, .slice bx Lb by'] rfl rfl HR.out.nv.box.there sizeAcc (acc_one _ _ _ _ _ _ _ _ _) ?_)
                  have HN9 : Hid (NvS w N ⟨br, bm, bh, ba, bn, bv, bc⟩ (.slice bx Lb by') (W.setCells N 0 [.int .i64 br, .int .i64 bm, .bool bh, .int .i64 ba, .int .i64 bn, .string bv, .slice bx Lb by'])) := Lib.hid HR.out.next
                  clear c0 c1 c2 c3 c4 c5 c6 b0 b1 b2 b3 b4 b5 b6
                  generalize W.setCells N 0 _ = W9 at HN9 ⊢
                  go_wp2
                  go_roundw
                  case rel => exact ⟨k + 1, ⟨br, bm, bh, ba, bn, bv, bc⟩, .slice bx Lb by', by omega, by go_num, HN9, Lib.hid HK.out.ok⟩
                  case measure => simp [intOf]; omega
            exact AllReadyH.nil
          exact AllReadyH.nil
        exact AllReadyH.nil
        --R13bE
      · have HC := Lib.hid (HC3.out rfl)
        clear HC1 HC2 HC3 HC0
        go_upto_region 13 with (first
          | (go_at_call 14; refine (HC.out _ HR2.out.nv).mono ?_; rintro e w3 ⟨s3, q3, rfl, ho, hb⟩; obtain ⟨bx, by', rfl⟩ := ho.slice; rw [HLb.out] at ho ⊢; have HR3 := Lib.hid (HR2.out.keep hb); have HO3 := Lib.hid (ho.mono (show Y + 1 ≤ _ from HR2.out.bb.lt)); clear ho hb c0 c1 c2 c3 c4 c5 c6 g0 g1 g2 g3 g4 g5)
          | (refine wpList_store_mid rfl 26 _ _ rfl Y 0 #[.int .i64 br, .int .i64 bm, .bool bh, .int .i64 ba, .int .i64 bn, .string bv, .slice bx Lb by'] rfl rfl HR3.out.bb.there sizeAcc (acc_one _ _ _ _ _ _ _ _ _) ?_))
        have HR : Hid (RdS w N X Y ⟨ar, am, ah, aa, an, av1, ac1⟩ (.slice av La ac0) _ ⟨br, bm, bh, ba, bn, bv, bc⟩ (.slice bx Lb by') (w3.setCells Y 0 [.int .i64 br, .int .i64 bm, .bool bh, .int .i64 ba, .int .i64 bn, .string bv, .slice bx Lb by'])) := Lib.hid (HR3.out.lay ⟨br, bm, bh, ba, bn, bv, bc⟩ (.slice bx Lb by') HO3.out)
        generalize w3.setCells Y 0 _ = W4 at HR ⊢
        --R13c
        have hcap := own_cap HR.out.own
        have hLc : La ≤ by' := by omega
        have HR := Lib.hid (HR.out.keep (below_drew (Below.refl _ _)))
        refine wp_region_held_drew (S := fun u => (u.cell? ⟨N, 0, none⟩ = some (.int .i64 ar) ∧ u.cell? ⟨N, 1, none⟩ = some (.int .i64 am) ∧ u.cell? ⟨N, 2, none⟩ = some (.bool ah) ∧ u.cell? ⟨N, 3, none⟩ = some (.int .i64 aa) ∧ u.cell? ⟨N, 4, none⟩ = some (.int .i64 an) ∧ u.cell? ⟨N, 5, none⟩ = some (.string av1) ∧ u.cell? ⟨N, 6, none⟩ = some (.slice av La ac0)) ∧ (u.cell? ⟨Y, 0, none⟩ = some (.int .i64 br) ∧ u.cell? ⟨Y, 1, none⟩ = some (.int .i64 bm) ∧ u.cell? ⟨Y, 2, none⟩ = some (.bool bh) ∧ u.cell? ⟨Y, 3, none⟩ = some (.int .i64 ba) ∧ u.cell? ⟨Y, 4, none⟩ = some (.int .i64 bn) ∧ u.cell? ⟨Y, 5, none⟩ = some (.string bv) ∧ u.cell? ⟨Y, 6, none⟩ = some (.slice bx Lb by'))) (by kernel_rfl) (⟨HR.out.nv.box.cells, HR.out.bb.cells⟩) (fun hHeld => ?_)
        generalize World.drew _ = W at *
        refine wpAnyH_take (i := 0) (oi := { dst := some 50, op := Op.load 26 (Operand.tmp 6), type := 26, pos := "law.go:63", after := #[], guard := none }) (v := ?_) rfl (by kernel_rfl) (by kernel_rfl) (by kernel_rfl) (fun _ _ _ h => h) (Or.inl ⟨by rfl, ?_⟩) hHeld ?_
        rotate_left 1
        · intro W hSw
          (try dsimp only at hSw)
          go_simp
          try with_reducible rfl
        try simp only [Act.put, List.setIfInBounds_toArray, List.set_cons_zero, List.set_cons_succ]
        refine wpAnyH_ready (rs := [1]) (by kernel_rfl) (by simp) ?_
        refine AllReadyH.cons (o := { dst := some 51, op := Op.call { callee := Callee.value (Operand.func 21), args := #[Operand.tmp 50], argTypes := #[26] }, type := 4, pos := "law.go:63", after := #[{ on := 0, ground := Ground.data }], guard := none }) rfl (fun K7 hK7 => ?_) ?_
        · go_simp
          refine (HFt.out _ _ _ HR.out.own).mono ?_
          rintro e V ⟨rfl, hb⟩
          have HR := Lib.hid (HR.out.keep hb)
          clear hb
          obtain ⟨W, rfl⟩ : ∃ U, U = V := ⟨_, rfl⟩
          try dsimp only
          refine hK7.out _ _ (⟨HR.out.nv.box.cells, HR.out.bb.cells⟩) (fun hHeld => ?_)
          clear hK7 K7
          try simp only [Act.put, List.setIfInBounds_toArray, List.set_cons_zero, List.set_cons_succ]
          refine wpAnyH_take (i := 2) (oi := { dst := some 52, op := Op.unOp UnOp.not 4 (Operand.tmp 51), type := 4, pos := "law.go:63", after := #[{ on := 1, ground := Ground.data }], guard := none }) (v := ?_) rfl (by kernel_rfl) (by kernel_rfl) (by kernel_rfl) (fun _ _ _ h => h) (Or.inl ⟨by rfl, ?_⟩) hHeld ?_
          rotate_left 1
          · intro W hSw
            (try dsimp only at hSw)
            go_simp
            try with_reducible rfl
          try simp only [Act.put, List.setIfInBounds_toArray, List.set_cons_zero, List.set_cons_succ]
          refine wpAnyH_take (i := 3) (oi := { dst := some 53, op := Op.move (Operand.tmp 52), type := 4, pos := "law.go:63", after := #[{ on := 2, ground := Ground.data }, { on := 1, ground := Ground.chain }], guard := none }) (v := ?_) rfl (by kernel_rfl) (by kernel_rfl) (by kernel_rfl) (fun _ _ _ h => h) (Or.inl ⟨by rfl, ?_⟩) hHeld ?_
          rotate_left 1
          · intro W hSw
            (try dsimp only at hSw)
            go_simp
            try with_reducible rfl
          try simp only [Act.put, List.setIfInBounds_toArray, List.set_cons_zero, List.set_cons_succ]
          refine wpAnyH_take (i := 4) (oi := { dst := some 54, op := Op.fieldAddr 26 (Operand.tmp 3) 0, type := 0, pos := "law.go:63", after := #[{ on := 3, ground := Ground.guard }], guard := some (3, false) }) (v := ?_) rfl (by kernel_rfl) (by kernel_rfl) (by kernel_rfl) (fun _ _ _ h => h) (Or.inl ⟨by rfl, ?_⟩) hHeld ?_
          rotate_left 1
          · intro W hSw
            (try dsimp only at hSw)
            go_simp
            try with_reducible rfl
          try simp only [Act.put, List.setIfInBounds_toArray, List.set_cons_zero, List.set_cons_succ]
          refine wpAnyH_take (i := 5) (oi := { dst := some 55, op := Op.load 23 (Operand.tmp 54), type := 23, pos := "law.go:63", after := #[{ on := 4, ground := Ground.data }, { on := 3, ground := Ground.guard }], guard := some (3, false) }) (v := ?_) rfl (by kernel_rfl) (by kernel_rfl) (by kernel_rfl) (fun _ _ _ h => h) (Or.inl ⟨by rfl, ?_⟩) hHeld ?_
          rotate_left 1
          · intro W hSw
            (try dsimp only at hSw)
            go_simp
            try with_reducible rfl
          try simp only [Act.put, List.setIfInBounds_toArray, List.set_cons_zero, List.set_cons_succ]
          refine wpAnyH_take (i := 6) (oi := { dst := some 56, op := Op.fieldAddr 26 (Operand.tmp 6) 0, type := 0, pos := "law.go:63", after := #[{ on := 3, ground := Ground.guard }], guard := some (3, false) }) (v := ?_) rfl (by kernel_rfl) (by kernel_rfl) (by kernel_rfl) (fun _ _ _ h => h) (Or.inl ⟨by rfl, ?_⟩) hHeld ?_
          rotate_left 1
          · intro W hSw
            (try dsimp only at hSw)
            go_simp
            try with_reducible rfl
          try simp only [Act.put, List.setIfInBounds_toArray, List.set_cons_zero, List.set_cons_succ]
          refine wpAnyH_take (i := 7) (oi := { dst := some 57, op := Op.load 23 (Operand.tmp 56), type := 23, pos := "law.go:63", after := #[{ on := 6, ground := Ground.data }, { on := 3, ground := Ground.guard }], guard := some (3, false) }) (v := ?_) rfl (by kernel_rfl) (by kernel_rfl) (by kernel_rfl) (fun _ _ _ h => h) (Or.inl ⟨by rfl, ?_⟩) hHeld ?_
          rotate_left 1
          · intro W hSw
            (try dsimp only at hSw)
            go_simp
            try with_reducible rfl
          try simp only [Act.put, List.setIfInBounds_toArray, List.set_cons_zero, List.set_cons_succ]
          refine wpAnyH_ready (rs := [8]) (by kernel_rfl) (by simp) ?_
          refine AllReadyH.cons (o := { dst := some 58, op := Op.call { callee := Callee.value (Operand.func 22), args := #[Operand.tmp 55, Operand.tmp 57], argTypes := #[23, 23] }, type := 4, pos := "law.go:63", after := #[{ on := 5, ground := Ground.data }, { on := 7, ground := Ground.data }, { on := 3, ground := Ground.chain }, { on := 3, ground := Ground.guard }], guard := some (3, false) }) rfl (fun K7 hK7 => ?_) ?_
          · go_simp
            refine (HLt.out _).mono ?_
            rintro e V ⟨rfl, hb⟩
            have HR := Lib.hid (HR.out.keep hb)
            clear hb
            obtain ⟨W, rfl⟩ : ∃ U, U = V := ⟨_, rfl⟩
            try dsimp only
            refine hK7.out _ _ (⟨HR.out.nv.box.cells, HR.out.bb.cells⟩) (fun hHeld => ?_)
            clear hK7 K7
            try simp only [Act.put, List.setIfInBounds_toArray, List.set_cons_zero, List.set_cons_succ]
            refine wpAnyH_take (i := 9) (oi := { dst := some 59, op := Op.pick (Operand.tmp 53) (Operand.const (Value.bool true)) (Operand.tmp 58), type := 4, pos := "law.go:63", after := #[{ on := 3, ground := Ground.data }, { on := 8, ground := Ground.data }], guard := none }) (v := ?_) rfl (by kernel_rfl) (by kernel_rfl) (by kernel_rfl) (fun _ _ _ h => h) (Or.inl ⟨by rfl, ?_⟩) hHeld ?_
            rotate_left 1
            · intro W hSw
              (try dsimp only at hSw)
              go_simp
              try with_reducible rfl
            try simp only [Act.put, List.setIfInBounds_toArray, List.set_cons_zero, List.set_cons_succ]
            refine wpAnyH_take (i := 10) (oi := { dst := some 60, op := Op.move (Operand.tmp 59), type := 4, pos := "law.go:63", after := #[{ on := 9, ground := Ground.data }, { on := 8, ground := Ground.chain }], guard := none }) (v := ?_) rfl (by kernel_rfl) (by kernel_rfl) (by kernel_rfl) (fun _ _ _ h => h) (Or.inl ⟨by rfl, ?_⟩) hHeld ?_
            rotate_left 1
            · intro W hSw
              (try dsimp only at hSw)
              go_simp
              try with_reducible rfl
            try simp only [Act.put, List.setIfInBounds_toArray, List.set_cons_zero, List.set_cons_succ]
            refine wpAnyH_take (i := 11) (oi := { dst := some 61, op := Op.fieldAddr 26 (Operand.tmp 6) 4, type := 0, pos := "law.go:63", after := #[{ on := 10, ground := Ground.guard }], guard := some (10, false) }) (v := ?_) rfl (by kernel_rfl) (by kernel_rfl) (by kernel_rfl) (fun _ _ _ h => h) (Or.inl ⟨by rfl, ?_⟩) hHeld ?_
            rotate_left 1
            · intro W hSw
              (try dsimp only at hSw)
              go_simp
              try with_reducible rfl
            try simp only [Act.put, List.setIfInBounds_toArray, List.set_cons_zero, List.set_cons_succ]
            refine wpAnyH_take (i := 12) (oi := { dst := some 62, op := Op.load 24 (Operand.tmp 61), type := 24, pos := "law.go:63", after := #[{ on := 11, ground := Ground.data }, { on := 10, ground := Ground.guard }], guard := some (10, false) }) (v := ?_) rfl (by kernel_rfl) (by kernel_rfl) (by kernel_rfl) (fun _ _ _ h => h) (Or.inl ⟨by rfl, ?_⟩) hHeld ?_
            rotate_left 1
            · intro W hSw
              (try dsimp only at hSw)
              go_simp
              try with_reducible rfl
            try simp only [Act.put, List.setIfInBounds_toArray, List.set_cons_zero, List.set_cons_succ]
            refine wpAnyH_take (i := 13) (oi := { dst := some 63, op := Op.call { callee := Callee.builtin Builtin.len, args := #[Operand.tmp 62], argTypes := #[24] }, type := 3, pos := "law.go:63", after := #[{ on := 12, ground := Ground.data }, { on := 10, ground := Ground.guard }], guard := some (10, false) }) (v := ?_) rfl (by kernel_rfl) (by kernel_rfl) (by kernel_rfl) (fun _ _ _ h => h) (Or.inl ⟨by rfl, ?_⟩) hHeld ?_
            rotate_left 1
            · intro W hSw
              (try dsimp only at hSw)
              go_simp
              try with_reducible rfl
            try simp only [Act.put, List.setIfInBounds_toArray, List.set_cons_zero, List.set_cons_succ]
            refine wpAnyH_take (i := 14) (oi := { dst := some 64, op := Op.fieldAddr 26 (Operand.tmp 3) 4, type := 0, pos := "law.go:63", after := #[{ on := 10, ground := Ground.guard }], guard := some (10, false) }) (v := ?_) rfl (by kernel_rfl) (by kernel_rfl) (by kernel_rfl) (fun _ _ _ h => h) (Or.inl ⟨by rfl, ?_⟩) hHeld ?_
            rotate_left 1
            · intro W hSw
              (try dsimp only at hSw)
              go_simp
              try with_reducible rfl
            try simp only [Act.put, List.setIfInBounds_toArray, List.set_cons_zero, List.set_cons_succ]
            refine wpAnyH_take (i := 15) (oi := { dst := some 65, op := Op.load 24 (Operand.tmp 64), type := 24, pos := "law.go:63", after := #[{ on := 14, ground := Ground.data }, { on := 10, ground := Ground.guard }], guard := some (10, false) }) (v := ?_) rfl (by kernel_rfl) (by kernel_rfl) (by kernel_rfl) (fun _ _ _ h => h) (Or.inl ⟨by rfl, ?_⟩) hHeld ?_
            rotate_left 1
            · intro W hSw
              (try dsimp only at hSw)
              go_simp
              try with_reducible rfl
            try simp only [Act.put, List.setIfInBounds_toArray, List.set_cons_zero, List.set_cons_succ]
            refine wpAnyH_take (i := 16) (oi := { dst := some 66, op := Op.call { callee := Callee.builtin Builtin.len, args := #[Operand.tmp 65], argTypes := #[24] }, type := 3, pos := "law.go:63", after := #[{ on := 15, ground := Ground.data }, { on := 10, ground := Ground.guard }], guard := some (10, false) }) (v := ?_) rfl (by kernel_rfl) (by kernel_rfl) (by kernel_rfl) (fun _ _ _ h => h) (Or.inl ⟨by rfl, ?_⟩) hHeld ?_
            rotate_left 1
            · intro W hSw
              (try dsimp only at hSw)
              go_simp
              try with_reducible rfl
            try simp only [Act.put, List.setIfInBounds_toArray, List.set_cons_zero, List.set_cons_succ]
            refine wpAnyH_take (i := 17) (oi := { dst := some 67, op := Op.binOp BinOp.lss 3 (Operand.tmp 63) (Operand.tmp 66) 3, type := 4, pos := "law.go:63", after := #[{ on := 13, ground := Ground.data }, { on := 16, ground := Ground.data }, { on := 10, ground := Ground.guard }], guard := some (10, false) }) (v := ?_) rfl (by kernel_rfl) (by kernel_rfl) (by kernel_rfl) (fun _ _ _ h => h) (Or.inl ⟨by rfl, ?_⟩) hHeld ?_
            rotate_left 1
            · intro W hSw
              (try dsimp only at hSw)
              go_simp
              try with_reducible rfl
            try simp only [Act.put, List.setIfInBounds_toArray, List.set_cons_zero, List.set_cons_succ]
            refine wpAnyH_take (i := 18) (oi := { dst := some 68, op := Op.pick (Operand.tmp 60) (Operand.const (Value.bool true)) (Operand.tmp 67), type := 4, pos := "law.go:63", after := #[{ on := 10, ground := Ground.data }, { on := 17, ground := Ground.data }], guard := none }) (v := ?_) rfl (by kernel_rfl) (by kernel_rfl) (by kernel_rfl) (fun _ _ _ h => h) (Or.inl ⟨by rfl, ?_⟩) hHeld ?_
            rotate_left 1
            · intro W hSw
              (try dsimp only at hSw)
              go_simp
              try with_reducible rfl
            try simp only [Act.put, List.setIfInBounds_toArray, List.set_cons_zero, List.set_cons_succ]
            refine wpAnyH_take (i := 19) (oi := { dst := some 69, op := Op.move (Operand.tmp 68), type := 4, pos := "law.go:63", after := #[{ on := 18, ground := Ground.data }, { on := 10, ground := Ground.chain }], guard := none }) (v := ?_) rfl (by kernel_rfl) (by kernel_rfl) (by kernel_rfl) (fun _ _ _ h => h) (Or.inl ⟨by rfl, ?_⟩) hHeld ?_
            rotate_left 1
            · intro W hSw
              (try dsimp only at hSw)
              go_simp
              try with_reducible rfl
            try simp only [Act.put, List.setIfInBounds_toArray, List.set_cons_zero, List.set_cons_succ]
            refine wpAnyH_take (i := 20) (oi := { dst := some 70, op := Op.fieldAddr 26 (Operand.tmp 6) 4, type := 0, pos := "law.go:63", after := #[{ on := 19, ground := Ground.guard }], guard := some (19, false) }) (v := ?_) rfl (by kernel_rfl) (by kernel_rfl) (by kernel_rfl) (fun _ _ _ h => h) (Or.inl ⟨by rfl, ?_⟩) hHeld ?_
            rotate_left 1
            · intro W hSw
              (try dsimp only at hSw)
              go_simp
              try with_reducible rfl
            try simp only [Act.put, List.setIfInBounds_toArray, List.set_cons_zero, List.set_cons_succ]
            refine wpAnyH_take (i := 21) (oi := { dst := some 71, op := Op.load 24 (Operand.tmp 70), type := 24, pos := "law.go:63", after := #[{ on := 20, ground := Ground.data }, { on := 19, ground := Ground.guard }], guard := some (19, false) }) (v := ?_) rfl (by kernel_rfl) (by kernel_rfl) (by kernel_rfl) (fun _ _ _ h => h) (Or.inl ⟨by rfl, ?_⟩) hHeld ?_
            rotate_left 1
            · intro W hSw
              (try dsimp only at hSw)
              go_simp
              try with_reducible rfl
            try simp only [Act.put, List.setIfInBounds_toArray, List.set_cons_zero, List.set_cons_succ]
            refine wpAnyH_take (i := 22) (oi := { dst := some 72, op := Op.fieldAddr 26 (Operand.tmp 3) 4, type := 0, pos := "law.go:63", after := #[{ on := 19, ground := Ground.guard }], guard := some (19, false) }) (v := ?_) rfl (by kernel_rfl) (by kernel_rfl) (by kernel_rfl) (fun _ _ _ h => h) (Or.inl ⟨by rfl, ?_⟩) hHeld ?_
            rotate_left 1
            · intro W hSw
              (try dsimp only at hSw)
              go_simp
              try with_reducible rfl
            try simp only [Act.put, List.setIfInBounds_toArray, List.set_cons_zero, List.set_cons_succ]
            refine wpAnyH_take (i := 23) (oi := { dst := some 73, op := Op.load 24 (Operand.tmp 72), type := 24, pos := "law.go:63", after := #[{ on := 22, ground := Ground.data }, { on := 19, ground := Ground.guard }], guard := some (19, false) }) (v := ?_) rfl (by kernel_rfl) (by kernel_rfl) (by kernel_rfl) (fun _ _ _ h => h) (Or.inl ⟨by rfl, ?_⟩) hHeld ?_
            rotate_left 1
            · intro W hSw
              (try dsimp only at hSw)
              go_simp
              try with_reducible rfl
            try simp only [Act.put, List.setIfInBounds_toArray, List.set_cons_zero, List.set_cons_succ]
            refine wpAnyH_take (i := 24) (oi := { dst := some 74, op := Op.call { callee := Callee.builtin Builtin.len, args := #[Operand.tmp 73], argTypes := #[24] }, type := 3, pos := "law.go:63", after := #[{ on := 23, ground := Ground.data }, { on := 19, ground := Ground.guard }], guard := some (19, false) }) (v := ?_) rfl (by kernel_rfl) (by kernel_rfl) (by kernel_rfl) (fun _ _ _ h => h) (Or.inl ⟨by rfl, ?_⟩) hHeld ?_
            rotate_left 1
            · intro W hSw
              (try dsimp only at hSw)
              go_simp
              try with_reducible rfl
            try simp only [Act.put, List.setIfInBounds_toArray, List.set_cons_zero, List.set_cons_succ]
            refine wpAnyH_take (i := 25) (oi := { dst := some 75, op := Op.slice 24 (Operand.tmp 71) none (some (Operand.tmp 74)) none, type := 24, pos := "law.go:63", after := #[{ on := 21, ground := Ground.data }, { on := 24, ground := Ground.data }, { on := 19, ground := Ground.guard }], guard := some (19, false) }) (v := ?_) rfl (by kernel_rfl) (by kernel_rfl) (by kernel_rfl) (fun _ _ _ h => h) (Or.inl ⟨by rfl, ?_⟩) hHeld ?_
            rotate_left 1
            · intro W hSw
              (try dsimp only at hSw)
              go_simp
              try with_reducible rfl
            try simp only [Act.put, List.setIfInBounds_toArray, List.set_cons_zero, List.set_cons_succ]
            refine wpAnyH_take (i := 26) (oi := { dst := some 76, op := Op.fieldAddr 26 (Operand.tmp 3) 4, type := 0, pos := "law.go:63", after := #[{ on := 19, ground := Ground.guard }], guard := some (19, false) }) (v := ?_) rfl (by kernel_rfl) (by kernel_rfl) (by kernel_rfl) (fun _ _ _ h => h) (Or.inl ⟨by rfl, ?_⟩) hHeld ?_
            rotate_left 1
            · intro W hSw
              (try dsimp only at hSw)
              go_simp
              try with_reducible rfl
            try simp only [Act.put, List.setIfInBounds_toArray, List.set_cons_zero, List.set_cons_succ]
            refine wpAnyH_take (i := 27) (oi := { dst := some 77, op := Op.load 24 (Operand.tmp 76), type := 24, pos := "law.go:63", after := #[{ on := 26, ground := Ground.data }, { on := 19, ground := Ground.guard }], guard := some (19, false) }) (v := ?_) rfl (by kernel_rfl) (by kernel_rfl) (by kernel_rfl) (fun _ _ _ h => h) (Or.inl ⟨by rfl, ?_⟩) hHeld ?_
            rotate_left 1
            · intro W hSw
              (try dsimp only at hSw)
              go_simp
              try with_reducible rfl
            try simp only [Act.put, List.setIfInBounds_toArray, List.set_cons_zero, List.set_cons_succ]
            refine wpAnyH_ready (rs := [28]) (by kernel_rfl) (by simp) ?_
            refine AllReadyH.cons (o := { dst := some 78, op := Op.call { callee := Callee.value (Operand.func 18), args := #[Operand.tmp 75, Operand.tmp 77], argTypes := #[24, 24] }, type := 4, pos := "law.go:63", after := #[{ on := 25, ground := Ground.data }, { on := 27, ground := Ground.data }, { on := 19, ground := Ground.chain }, { on := 19, ground := Ground.guard }], guard := some (19, false) }) rfl (fun K7 hK7 => ?_) ?_
            · go_simp
              refine (HTx.out _ _ _ _ _ HR.out.own HR.out.nv.own).mono ?_
              rintro e V ⟨rfl, hb⟩
              have HR := Lib.hid (HR.out.keep hb)
              clear hb
              obtain ⟨W, rfl⟩ : ∃ U, U = V := ⟨_, rfl⟩
              try dsimp only
              refine hK7.out _ _ (⟨HR.out.nv.box.cells, HR.out.bb.cells⟩) (fun hHeld => ?_)
              clear hK7 K7
              try simp only [Act.put, List.setIfInBounds_toArray, List.set_cons_zero, List.set_cons_succ]
              refine wpAnyH_take (i := 29) (oi := { dst := some 79, op := Op.unOp UnOp.not 4 (Operand.tmp 78), type := 4, pos := "law.go:63", after := #[{ on := 28, ground := Ground.data }, { on := 19, ground := Ground.guard }], guard := some (19, false) }) (v := ?_) rfl (by kernel_rfl) (by kernel_rfl) (by kernel_rfl) (fun _ _ _ h => h) (Or.inl ⟨by rfl, ?_⟩) hHeld ?_
              rotate_left 1
              · intro W hSw
                (try dsimp only at hSw)
                go_simp
                try with_reducible rfl
              try simp only [Act.put, List.setIfInBounds_toArray, List.set_cons_zero, List.set_cons_succ]
              refine wpAnyH_take (i := 30) (oi := { dst := some 80, op := Op.pick (Operand.tmp 69) (Operand.const (Value.bool true)) (Operand.tmp 79), type := 4, pos := "law.go:63", after := #[{ on := 19, ground := Ground.data }, { on := 29, ground := Ground.data }], guard := none }) (v := ?_) rfl (by kernel_rfl) (by kernel_rfl) (by kernel_rfl) (fun _ _ _ h => h) (Or.inl ⟨by rfl, ?_⟩) hHeld ?_
              rotate_left 1
              · intro W hSw
                (try dsimp only at hSw)
                go_simp
                try with_reducible rfl
              try simp only [Act.put, List.setIfInBounds_toArray, List.set_cons_zero, List.set_cons_succ]
              refine wpAnyH_done (by kernel_rfl) ?_ _
              clear hHeld
              go_upto_region 15 with fail
              obtain ⟨c0, c1, c2, c3, c4, c5, c6⟩ := HR.out.nv.box.cells
              obtain ⟨b0, b1, b2, b3, b4, b5, b6⟩ := HR.out.bb.cells
              simp only at c0 c1 c2 c3 c4 c5 c6 b0 b1 b2 b3 b4 b5 b6
              cases ah with
              | false =>
                go_upto_region 17 with fail
                go_upto_region 18 with (refine wpList_store_mid rfl 26 _ _ rfl N 0 #[.int .i64 br, .int .i64 bm, .bool bh, .int .i64 ba, .int .i64 bn, .string bv, .slice bx Lb by'] rfl rfl HR.out.nv.box.there sizeAcc (acc_one _ _ _ _ _ _ _ _ _) ?_)
                have HN9 : Hid (NvS w N ⟨br, bm, bh, ba, bn, bv, bc⟩ (.slice bx Lb by') (W.setCells N 0 [.int .i64 br, .int .i64 bm, .bool bh, .int .i64 ba, .int .i64 bn, .string bv, .slice bx Lb by'])) := Lib.hid HR.out.next
                clear c0 c1 c2 c3 c4 c5 c6 b0 b1 b2 b3 b4 b5 b6
                generalize W.setCells N 0 _ = W9 at HN9 ⊢
                go_wp2
                go_roundw
                case rel => exact ⟨k + 1, ⟨br, bm, bh, ba, bn, bv, bc⟩, .slice bx Lb by', by omega, by go_num, HN9, Lib.hid HK.out.ok⟩
                case measure => simp [intOf]; omega
              | true =>
                by_cases hle : Lb = La
                · obtain ⟨hbh, hlu⟩ := HLu.out rfl hle
                  have HLw := Lib.hid hlu
                  subst hbh
                  have hle2 : True → ((Lb : Int) == (La : Int)) = true := fun _ => by simp [hle]
                  clear hlu hle
                  go_upto_region 17 with (go_at_call 22; refine (HLw.out _).mono ?_; rintro e V ⟨rfl, hb⟩; have HR := Lib.hid (HR.out.keep hb); clear hb c0 c1 c2 c3 c4 c5 c6 b0 b1 b2 b3 b4 b5 b6)
                  obtain ⟨W, rfl⟩ : ∃ U, U = V := ⟨_, rfl⟩
                  obtain ⟨c0, c1, c2, c3, c4, c5, c6⟩ := HR.out.nv.box.cells
                  obtain ⟨b0, b1, b2, b3, b4, b5, b6⟩ := HR.out.bb.cells
                  simp only at c0 c1 c2 c3 c4 c5 c6 b0 b1 b2 b3 b4 b5 b6
                  go_upto_region 18 with (refine wpList_store_mid rfl 26 _ _ rfl N 0 #[.int .i64 br, .int .i64 bm, .bool true, .int .i64 ba, .int .i64 bn, .string bv, .slice bx Lb by'] rfl rfl HR.out.nv.box.there sizeAcc (acc_one _ _ _ _ _ _ _ _ _) ?_)
                  have HN9 : Hid (NvS w N ⟨br, bm, true, ba, bn, bv, bc⟩ (.slice bx Lb by') (W.setCells N 0 [.int .i64 br, .int .i64 bm, .bool true, .int .i64 ba, .int .i64 bn, .string bv, .slice bx Lb by'])) := Lib.hid HR.out.next
                  clear c0 c1 c2 c3 c4 c5 c6 b0 b1 b2 b3 b4 b5 b6
                  generalize W.setCells N 0 _ = W9 at HN9 ⊢
                  go_wp2
                  go_roundw
                  case rel => exact ⟨k + 1, ⟨br, bm, true, ba, bn, bv, bc⟩, .slice bx Lb by', by omega, by go_num, HN9, Lib.hid HK.out.ok⟩
                  case measure => simp [intOf]; omega
                · have hle2 : True → ((Lb : Int) == (La : Int)) = false := fun _ => by simp; omega
                  go_upto_region 17 with fail
                  go_upto_region 18 with (refine wpList_store_mid rfl 26 _ _ rfl N 0 #[.int .i64 br, .int .i64 bm, .bool bh, .int .i64 ba, .int .i64 bn, .string bv, .slice bx Lb by'] rfl rfl HR.out.nv.box.there sizeAcc (acc_one _ _ _ _ _ _ _ _ _) ?_)
                  have HN9 : Hid (NvS w N ⟨br, bm, bh, ba, bn, bv, bc⟩ (.slice bx Lb by') (W.setCells N 0 [.int .i64 br, .int .i64 bm, .bool bh, .int .i64 ba, .int .i64 bn, .string bv, .slice bx Lb by'])) := Lib.hid HR.out.next
                  clear c0 c1 c2 c3 c4 c5 c6 b0 b1 b2 b3 b4 b5 b6
                  generalize W.setCells N 0 _ = W9 at HN9 ⊢
                  go_wp2
                  go_roundw
                  case rel => exact ⟨k + 1, ⟨br, bm, bh, ba, bn, bv, bc⟩, .slice bx Lb by', by omega, by go_num, HN9, Lib.hid HK.out.ok⟩
                  case measure => simp [intOf]; omega
            exact AllReadyH.nil
          exact AllReadyH.nil
        exact AllReadyH.nil
        --R13cE
      · have hb0 := HC0.out n1 n2 n3
        have n1' : True → (kind == 1) = false := fun _ => by simp [n1]
        have n2' : True → (kind == 2) = false := fun _ => by simp [n2]
        have n3' : True → (kind == 3) = false := fun _ => by simp [n3]
        clear HC1 HC2 HC3 HC0
        have hll : Lb = La := by rw [← HLb.out, ← HLa.out]; exact congrArg (fun z => z.com.length) hb0
        obtain ⟨bx, by', hbs⟩ : ∃ p q, (.slice av La ac0 : Value) = .slice p Lb q := ⟨av, ac0, by rw [hll]⟩
        have HR : Hid (RdS w N X Y ⟨ar, am, ah, aa, an, av1, ac1⟩ (.slice av La ac0) ⟨kind, r, m, ver, val, .slice px vals.length cx, vals⟩ ⟨br, bm, bh, ba, bn, bv, bc⟩ (.slice bx Lb by') W2) := Lib.hid (by rw [← hbs, hb0]; exact HR2.out)
        have HBx : Hid (ABox W2 Y br bm bh ba bn bv (.slice bx Lb by')) := Lib.hid HR.out.bb
        clear hbs hb0 hll
        go_upto_region 13 with fail
        --R13d
        have hcap := own_cap HR.out.own
        have hLc : La ≤ by' := by omega
        have HR := Lib.hid (HR.out.keep (below_drew (Below.refl _ _)))
        refine wp_region_held_drew (S := fun u => (u.cell? ⟨N, 0, none⟩ = some (.int .i64 ar) ∧ u.cell? ⟨N, 1, none⟩ = some (.int .i64 am) ∧ u.cell? ⟨N, 2, none⟩ = some (.bool ah) ∧ u.cell? ⟨N, 3, none⟩ = some (.int .i64 aa) ∧ u.cell? ⟨N, 4, none⟩ = some (.int .i64 an) ∧ u.cell? ⟨N, 5, none⟩ = some (.string av1) ∧ u.cell? ⟨N, 6, none⟩ = some (.slice av La ac0)) ∧ (u.cell? ⟨Y, 0, none⟩ = some (.int .i64 br) ∧ u.cell? ⟨Y, 1, none⟩ = some (.int .i64 bm) ∧ u.cell? ⟨Y, 2, none⟩ = some (.bool bh) ∧ u.cell? ⟨Y, 3, none⟩ = some (.int .i64 ba) ∧ u.cell? ⟨Y, 4, none⟩ = some (.int .i64 bn) ∧ u.cell? ⟨Y, 5, none⟩ = some (.string bv) ∧ u.cell? ⟨Y, 6, none⟩ = some (.slice bx Lb by'))) (by kernel_rfl) (⟨HR.out.nv.box.cells, HR.out.bb.cells⟩) (fun hHeld => ?_)
        generalize World.drew _ = W at *
        refine wpAnyH_take (i := 0) (oi := { dst := some 50, op := Op.load 26 (Operand.tmp 6), type := 26, pos := "law.go:63", after := #[], guard := none }) (v := ?_) rfl (by kernel_rfl) (by kernel_rfl) (by kernel_rfl) (fun _ _ _ h => h) (Or.inl ⟨by rfl, ?_⟩) hHeld ?_
        rotate_left 1
        · intro W hSw
          (try dsimp only at hSw)
          go_simp
          try with_reducible rfl
        try simp only [Act.put, List.setIfInBounds_toArray, List.set_cons_zero, List.set_cons_succ]
        refine wpAnyH_ready (rs := [1]) (by kernel_rfl) (by simp) ?_
        refine AllReadyH.cons (o := { dst := some 51, op := Op.call { callee := Callee.value (Operand.func 21), args := #[Operand.tmp 50], argTypes := #[26] }, type := 4, pos := "law.go:63", after := #[{ on := 0, ground := Ground.data }], guard := none }) rfl (fun K7 hK7 => ?_) ?_
        · go_simp
          refine (HFt.out _ _ _ HR.out.own).mono ?_
          rintro e V ⟨rfl, hb⟩
          have HR := Lib.hid (HR.out.keep hb)
          clear hb
          obtain ⟨W, rfl⟩ : ∃ U, U = V := ⟨_, rfl⟩
          try dsimp only
          refine hK7.out _ _ (⟨HR.out.nv.box.cells, HR.out.bb.cells⟩) (fun hHeld => ?_)
          clear hK7 K7
          try simp only [Act.put, List.setIfInBounds_toArray, List.set_cons_zero, List.set_cons_succ]
          refine wpAnyH_take (i := 2) (oi := { dst := some 52, op := Op.unOp UnOp.not 4 (Operand.tmp 51), type := 4, pos := "law.go:63", after := #[{ on := 1, ground := Ground.data }], guard := none }) (v := ?_) rfl (by kernel_rfl) (by kernel_rfl) (by kernel_rfl) (fun _ _ _ h => h) (Or.inl ⟨by rfl, ?_⟩) hHeld ?_
          rotate_left 1
          · intro W hSw
            (try dsimp only at hSw)
            go_simp
            try with_reducible rfl
          try simp only [Act.put, List.setIfInBounds_toArray, List.set_cons_zero, List.set_cons_succ]
          refine wpAnyH_take (i := 3) (oi := { dst := some 53, op := Op.move (Operand.tmp 52), type := 4, pos := "law.go:63", after := #[{ on := 2, ground := Ground.data }, { on := 1, ground := Ground.chain }], guard := none }) (v := ?_) rfl (by kernel_rfl) (by kernel_rfl) (by kernel_rfl) (fun _ _ _ h => h) (Or.inl ⟨by rfl, ?_⟩) hHeld ?_
          rotate_left 1
          · intro W hSw
            (try dsimp only at hSw)
            go_simp
            try with_reducible rfl
          try simp only [Act.put, List.setIfInBounds_toArray, List.set_cons_zero, List.set_cons_succ]
          refine wpAnyH_take (i := 4) (oi := { dst := some 54, op := Op.fieldAddr 26 (Operand.tmp 3) 0, type := 0, pos := "law.go:63", after := #[{ on := 3, ground := Ground.guard }], guard := some (3, false) }) (v := ?_) rfl (by kernel_rfl) (by kernel_rfl) (by kernel_rfl) (fun _ _ _ h => h) (Or.inl ⟨by rfl, ?_⟩) hHeld ?_
          rotate_left 1
          · intro W hSw
            (try dsimp only at hSw)
            go_simp
            try with_reducible rfl
          try simp only [Act.put, List.setIfInBounds_toArray, List.set_cons_zero, List.set_cons_succ]
          refine wpAnyH_take (i := 5) (oi := { dst := some 55, op := Op.load 23 (Operand.tmp 54), type := 23, pos := "law.go:63", after := #[{ on := 4, ground := Ground.data }, { on := 3, ground := Ground.guard }], guard := some (3, false) }) (v := ?_) rfl (by kernel_rfl) (by kernel_rfl) (by kernel_rfl) (fun _ _ _ h => h) (Or.inl ⟨by rfl, ?_⟩) hHeld ?_
          rotate_left 1
          · intro W hSw
            (try dsimp only at hSw)
            go_simp
            try with_reducible rfl
          try simp only [Act.put, List.setIfInBounds_toArray, List.set_cons_zero, List.set_cons_succ]
          refine wpAnyH_take (i := 6) (oi := { dst := some 56, op := Op.fieldAddr 26 (Operand.tmp 6) 0, type := 0, pos := "law.go:63", after := #[{ on := 3, ground := Ground.guard }], guard := some (3, false) }) (v := ?_) rfl (by kernel_rfl) (by kernel_rfl) (by kernel_rfl) (fun _ _ _ h => h) (Or.inl ⟨by rfl, ?_⟩) hHeld ?_
          rotate_left 1
          · intro W hSw
            (try dsimp only at hSw)
            go_simp
            try with_reducible rfl
          try simp only [Act.put, List.setIfInBounds_toArray, List.set_cons_zero, List.set_cons_succ]
          refine wpAnyH_take (i := 7) (oi := { dst := some 57, op := Op.load 23 (Operand.tmp 56), type := 23, pos := "law.go:63", after := #[{ on := 6, ground := Ground.data }, { on := 3, ground := Ground.guard }], guard := some (3, false) }) (v := ?_) rfl (by kernel_rfl) (by kernel_rfl) (by kernel_rfl) (fun _ _ _ h => h) (Or.inl ⟨by rfl, ?_⟩) hHeld ?_
          rotate_left 1
          · intro W hSw
            (try dsimp only at hSw)
            go_simp
            try with_reducible rfl
          try simp only [Act.put, List.setIfInBounds_toArray, List.set_cons_zero, List.set_cons_succ]
          refine wpAnyH_ready (rs := [8]) (by kernel_rfl) (by simp) ?_
          refine AllReadyH.cons (o := { dst := some 58, op := Op.call { callee := Callee.value (Operand.func 22), args := #[Operand.tmp 55, Operand.tmp 57], argTypes := #[23, 23] }, type := 4, pos := "law.go:63", after := #[{ on := 5, ground := Ground.data }, { on := 7, ground := Ground.data }, { on := 3, ground := Ground.chain }, { on := 3, ground := Ground.guard }], guard := some (3, false) }) rfl (fun K7 hK7 => ?_) ?_
          · go_simp
            refine (HLt.out _).mono ?_
            rintro e V ⟨rfl, hb⟩
            have HR := Lib.hid (HR.out.keep hb)
            clear hb
            obtain ⟨W, rfl⟩ : ∃ U, U = V := ⟨_, rfl⟩
            try dsimp only
            refine hK7.out _ _ (⟨HR.out.nv.box.cells, HR.out.bb.cells⟩) (fun hHeld => ?_)
            clear hK7 K7
            try simp only [Act.put, List.setIfInBounds_toArray, List.set_cons_zero, List.set_cons_succ]
            refine wpAnyH_take (i := 9) (oi := { dst := some 59, op := Op.pick (Operand.tmp 53) (Operand.const (Value.bool true)) (Operand.tmp 58), type := 4, pos := "law.go:63", after := #[{ on := 3, ground := Ground.data }, { on := 8, ground := Ground.data }], guard := none }) (v := ?_) rfl (by kernel_rfl) (by kernel_rfl) (by kernel_rfl) (fun _ _ _ h => h) (Or.inl ⟨by rfl, ?_⟩) hHeld ?_
            rotate_left 1
            · intro W hSw
              (try dsimp only at hSw)
              go_simp
              try with_reducible rfl
            try simp only [Act.put, List.setIfInBounds_toArray, List.set_cons_zero, List.set_cons_succ]
            refine wpAnyH_take (i := 10) (oi := { dst := some 60, op := Op.move (Operand.tmp 59), type := 4, pos := "law.go:63", after := #[{ on := 9, ground := Ground.data }, { on := 8, ground := Ground.chain }], guard := none }) (v := ?_) rfl (by kernel_rfl) (by kernel_rfl) (by kernel_rfl) (fun _ _ _ h => h) (Or.inl ⟨by rfl, ?_⟩) hHeld ?_
            rotate_left 1
            · intro W hSw
              (try dsimp only at hSw)
              go_simp
              try with_reducible rfl
            try simp only [Act.put, List.setIfInBounds_toArray, List.set_cons_zero, List.set_cons_succ]
            refine wpAnyH_take (i := 11) (oi := { dst := some 61, op := Op.fieldAddr 26 (Operand.tmp 6) 4, type := 0, pos := "law.go:63", after := #[{ on := 10, ground := Ground.guard }], guard := some (10, false) }) (v := ?_) rfl (by kernel_rfl) (by kernel_rfl) (by kernel_rfl) (fun _ _ _ h => h) (Or.inl ⟨by rfl, ?_⟩) hHeld ?_
            rotate_left 1
            · intro W hSw
              (try dsimp only at hSw)
              go_simp
              try with_reducible rfl
            try simp only [Act.put, List.setIfInBounds_toArray, List.set_cons_zero, List.set_cons_succ]
            refine wpAnyH_take (i := 12) (oi := { dst := some 62, op := Op.load 24 (Operand.tmp 61), type := 24, pos := "law.go:63", after := #[{ on := 11, ground := Ground.data }, { on := 10, ground := Ground.guard }], guard := some (10, false) }) (v := ?_) rfl (by kernel_rfl) (by kernel_rfl) (by kernel_rfl) (fun _ _ _ h => h) (Or.inl ⟨by rfl, ?_⟩) hHeld ?_
            rotate_left 1
            · intro W hSw
              (try dsimp only at hSw)
              go_simp
              try with_reducible rfl
            try simp only [Act.put, List.setIfInBounds_toArray, List.set_cons_zero, List.set_cons_succ]
            refine wpAnyH_take (i := 13) (oi := { dst := some 63, op := Op.call { callee := Callee.builtin Builtin.len, args := #[Operand.tmp 62], argTypes := #[24] }, type := 3, pos := "law.go:63", after := #[{ on := 12, ground := Ground.data }, { on := 10, ground := Ground.guard }], guard := some (10, false) }) (v := ?_) rfl (by kernel_rfl) (by kernel_rfl) (by kernel_rfl) (fun _ _ _ h => h) (Or.inl ⟨by rfl, ?_⟩) hHeld ?_
            rotate_left 1
            · intro W hSw
              (try dsimp only at hSw)
              go_simp
              try with_reducible rfl
            try simp only [Act.put, List.setIfInBounds_toArray, List.set_cons_zero, List.set_cons_succ]
            refine wpAnyH_take (i := 14) (oi := { dst := some 64, op := Op.fieldAddr 26 (Operand.tmp 3) 4, type := 0, pos := "law.go:63", after := #[{ on := 10, ground := Ground.guard }], guard := some (10, false) }) (v := ?_) rfl (by kernel_rfl) (by kernel_rfl) (by kernel_rfl) (fun _ _ _ h => h) (Or.inl ⟨by rfl, ?_⟩) hHeld ?_
            rotate_left 1
            · intro W hSw
              (try dsimp only at hSw)
              go_simp
              try with_reducible rfl
            try simp only [Act.put, List.setIfInBounds_toArray, List.set_cons_zero, List.set_cons_succ]
            refine wpAnyH_take (i := 15) (oi := { dst := some 65, op := Op.load 24 (Operand.tmp 64), type := 24, pos := "law.go:63", after := #[{ on := 14, ground := Ground.data }, { on := 10, ground := Ground.guard }], guard := some (10, false) }) (v := ?_) rfl (by kernel_rfl) (by kernel_rfl) (by kernel_rfl) (fun _ _ _ h => h) (Or.inl ⟨by rfl, ?_⟩) hHeld ?_
            rotate_left 1
            · intro W hSw
              (try dsimp only at hSw)
              go_simp
              try with_reducible rfl
            try simp only [Act.put, List.setIfInBounds_toArray, List.set_cons_zero, List.set_cons_succ]
            refine wpAnyH_take (i := 16) (oi := { dst := some 66, op := Op.call { callee := Callee.builtin Builtin.len, args := #[Operand.tmp 65], argTypes := #[24] }, type := 3, pos := "law.go:63", after := #[{ on := 15, ground := Ground.data }, { on := 10, ground := Ground.guard }], guard := some (10, false) }) (v := ?_) rfl (by kernel_rfl) (by kernel_rfl) (by kernel_rfl) (fun _ _ _ h => h) (Or.inl ⟨by rfl, ?_⟩) hHeld ?_
            rotate_left 1
            · intro W hSw
              (try dsimp only at hSw)
              go_simp
              try with_reducible rfl
            try simp only [Act.put, List.setIfInBounds_toArray, List.set_cons_zero, List.set_cons_succ]
            refine wpAnyH_take (i := 17) (oi := { dst := some 67, op := Op.binOp BinOp.lss 3 (Operand.tmp 63) (Operand.tmp 66) 3, type := 4, pos := "law.go:63", after := #[{ on := 13, ground := Ground.data }, { on := 16, ground := Ground.data }, { on := 10, ground := Ground.guard }], guard := some (10, false) }) (v := ?_) rfl (by kernel_rfl) (by kernel_rfl) (by kernel_rfl) (fun _ _ _ h => h) (Or.inl ⟨by rfl, ?_⟩) hHeld ?_
            rotate_left 1
            · intro W hSw
              (try dsimp only at hSw)
              go_simp
              try with_reducible rfl
            try simp only [Act.put, List.setIfInBounds_toArray, List.set_cons_zero, List.set_cons_succ]
            refine wpAnyH_take (i := 18) (oi := { dst := some 68, op := Op.pick (Operand.tmp 60) (Operand.const (Value.bool true)) (Operand.tmp 67), type := 4, pos := "law.go:63", after := #[{ on := 10, ground := Ground.data }, { on := 17, ground := Ground.data }], guard := none }) (v := ?_) rfl (by kernel_rfl) (by kernel_rfl) (by kernel_rfl) (fun _ _ _ h => h) (Or.inl ⟨by rfl, ?_⟩) hHeld ?_
            rotate_left 1
            · intro W hSw
              (try dsimp only at hSw)
              go_simp
              try with_reducible rfl
            try simp only [Act.put, List.setIfInBounds_toArray, List.set_cons_zero, List.set_cons_succ]
            refine wpAnyH_take (i := 19) (oi := { dst := some 69, op := Op.move (Operand.tmp 68), type := 4, pos := "law.go:63", after := #[{ on := 18, ground := Ground.data }, { on := 10, ground := Ground.chain }], guard := none }) (v := ?_) rfl (by kernel_rfl) (by kernel_rfl) (by kernel_rfl) (fun _ _ _ h => h) (Or.inl ⟨by rfl, ?_⟩) hHeld ?_
            rotate_left 1
            · intro W hSw
              (try dsimp only at hSw)
              go_simp
              try with_reducible rfl
            try simp only [Act.put, List.setIfInBounds_toArray, List.set_cons_zero, List.set_cons_succ]
            refine wpAnyH_take (i := 20) (oi := { dst := some 70, op := Op.fieldAddr 26 (Operand.tmp 6) 4, type := 0, pos := "law.go:63", after := #[{ on := 19, ground := Ground.guard }], guard := some (19, false) }) (v := ?_) rfl (by kernel_rfl) (by kernel_rfl) (by kernel_rfl) (fun _ _ _ h => h) (Or.inl ⟨by rfl, ?_⟩) hHeld ?_
            rotate_left 1
            · intro W hSw
              (try dsimp only at hSw)
              go_simp
              try with_reducible rfl
            try simp only [Act.put, List.setIfInBounds_toArray, List.set_cons_zero, List.set_cons_succ]
            refine wpAnyH_take (i := 21) (oi := { dst := some 71, op := Op.load 24 (Operand.tmp 70), type := 24, pos := "law.go:63", after := #[{ on := 20, ground := Ground.data }, { on := 19, ground := Ground.guard }], guard := some (19, false) }) (v := ?_) rfl (by kernel_rfl) (by kernel_rfl) (by kernel_rfl) (fun _ _ _ h => h) (Or.inl ⟨by rfl, ?_⟩) hHeld ?_
            rotate_left 1
            · intro W hSw
              (try dsimp only at hSw)
              go_simp
              try with_reducible rfl
            try simp only [Act.put, List.setIfInBounds_toArray, List.set_cons_zero, List.set_cons_succ]
            refine wpAnyH_take (i := 22) (oi := { dst := some 72, op := Op.fieldAddr 26 (Operand.tmp 3) 4, type := 0, pos := "law.go:63", after := #[{ on := 19, ground := Ground.guard }], guard := some (19, false) }) (v := ?_) rfl (by kernel_rfl) (by kernel_rfl) (by kernel_rfl) (fun _ _ _ h => h) (Or.inl ⟨by rfl, ?_⟩) hHeld ?_
            rotate_left 1
            · intro W hSw
              (try dsimp only at hSw)
              go_simp
              try with_reducible rfl
            try simp only [Act.put, List.setIfInBounds_toArray, List.set_cons_zero, List.set_cons_succ]
            refine wpAnyH_take (i := 23) (oi := { dst := some 73, op := Op.load 24 (Operand.tmp 72), type := 24, pos := "law.go:63", after := #[{ on := 22, ground := Ground.data }, { on := 19, ground := Ground.guard }], guard := some (19, false) }) (v := ?_) rfl (by kernel_rfl) (by kernel_rfl) (by kernel_rfl) (fun _ _ _ h => h) (Or.inl ⟨by rfl, ?_⟩) hHeld ?_
            rotate_left 1
            · intro W hSw
              (try dsimp only at hSw)
              go_simp
              try with_reducible rfl
            try simp only [Act.put, List.setIfInBounds_toArray, List.set_cons_zero, List.set_cons_succ]
            refine wpAnyH_take (i := 24) (oi := { dst := some 74, op := Op.call { callee := Callee.builtin Builtin.len, args := #[Operand.tmp 73], argTypes := #[24] }, type := 3, pos := "law.go:63", after := #[{ on := 23, ground := Ground.data }, { on := 19, ground := Ground.guard }], guard := some (19, false) }) (v := ?_) rfl (by kernel_rfl) (by kernel_rfl) (by kernel_rfl) (fun _ _ _ h => h) (Or.inl ⟨by rfl, ?_⟩) hHeld ?_
            rotate_left 1
            · intro W hSw
              (try dsimp only at hSw)
              go_simp
              try with_reducible rfl
            try simp only [Act.put, List.setIfInBounds_toArray, List.set_cons_zero, List.set_cons_succ]
            refine wpAnyH_take (i := 25) (oi := { dst := some 75, op := Op.slice 24 (Operand.tmp 71) none (some (Operand.tmp 74)) none, type := 24, pos := "law.go:63", after := #[{ on := 21, ground := Ground.data }, { on := 24, ground := Ground.data }, { on := 19, ground := Ground.guard }], guard := some (19, false) }) (v := ?_) rfl (by kernel_rfl) (by kernel_rfl) (by kernel_rfl) (fun _ _ _ h => h) (Or.inl ⟨by rfl, ?_⟩) hHeld ?_
            rotate_left 1
            · intro W hSw
              (try dsimp only at hSw)
              go_simp
              try with_reducible rfl
            try simp only [Act.put, List.setIfInBounds_toArray, List.set_cons_zero, List.set_cons_succ]
            refine wpAnyH_take (i := 26) (oi := { dst := some 76, op := Op.fieldAddr 26 (Operand.tmp 3) 4, type := 0, pos := "law.go:63", after := #[{ on := 19, ground := Ground.guard }], guard := some (19, false) }) (v := ?_) rfl (by kernel_rfl) (by kernel_rfl) (by kernel_rfl) (fun _ _ _ h => h) (Or.inl ⟨by rfl, ?_⟩) hHeld ?_
            rotate_left 1
            · intro W hSw
              (try dsimp only at hSw)
              go_simp
              try with_reducible rfl
            try simp only [Act.put, List.setIfInBounds_toArray, List.set_cons_zero, List.set_cons_succ]
            refine wpAnyH_take (i := 27) (oi := { dst := some 77, op := Op.load 24 (Operand.tmp 76), type := 24, pos := "law.go:63", after := #[{ on := 26, ground := Ground.data }, { on := 19, ground := Ground.guard }], guard := some (19, false) }) (v := ?_) rfl (by kernel_rfl) (by kernel_rfl) (by kernel_rfl) (fun _ _ _ h => h) (Or.inl ⟨by rfl, ?_⟩) hHeld ?_
            rotate_left 1
            · intro W hSw
              (try dsimp only at hSw)
              go_simp
              try with_reducible rfl
            try simp only [Act.put, List.setIfInBounds_toArray, List.set_cons_zero, List.set_cons_succ]
            refine wpAnyH_ready (rs := [28]) (by kernel_rfl) (by simp) ?_
            refine AllReadyH.cons (o := { dst := some 78, op := Op.call { callee := Callee.value (Operand.func 18), args := #[Operand.tmp 75, Operand.tmp 77], argTypes := #[24, 24] }, type := 4, pos := "law.go:63", after := #[{ on := 25, ground := Ground.data }, { on := 27, ground := Ground.data }, { on := 19, ground := Ground.chain }, { on := 19, ground := Ground.guard }], guard := some (19, false) }) rfl (fun K7 hK7 => ?_) ?_
            · go_simp
              refine (HTx.out _ _ _ _ _ HR.out.own HR.out.nv.own).mono ?_
              rintro e V ⟨rfl, hb⟩
              have HR := Lib.hid (HR.out.keep hb)
              clear hb
              obtain ⟨W, rfl⟩ : ∃ U, U = V := ⟨_, rfl⟩
              try dsimp only
              refine hK7.out _ _ (⟨HR.out.nv.box.cells, HR.out.bb.cells⟩) (fun hHeld => ?_)
              clear hK7 K7
              try simp only [Act.put, List.setIfInBounds_toArray, List.set_cons_zero, List.set_cons_succ]
              refine wpAnyH_take (i := 29) (oi := { dst := some 79, op := Op.unOp UnOp.not 4 (Operand.tmp 78), type := 4, pos := "law.go:63", after := #[{ on := 28, ground := Ground.data }, { on := 19, ground := Ground.guard }], guard := some (19, false) }) (v := ?_) rfl (by kernel_rfl) (by kernel_rfl) (by kernel_rfl) (fun _ _ _ h => h) (Or.inl ⟨by rfl, ?_⟩) hHeld ?_
              rotate_left 1
              · intro W hSw
                (try dsimp only at hSw)
                go_simp
                try with_reducible rfl
              try simp only [Act.put, List.setIfInBounds_toArray, List.set_cons_zero, List.set_cons_succ]
              refine wpAnyH_take (i := 30) (oi := { dst := some 80, op := Op.pick (Operand.tmp 69) (Operand.const (Value.bool true)) (Operand.tmp 79), type := 4, pos := "law.go:63", after := #[{ on := 19, ground := Ground.data }, { on := 29, ground := Ground.data }], guard := none }) (v := ?_) rfl (by kernel_rfl) (by kernel_rfl) (by kernel_rfl) (fun _ _ _ h => h) (Or.inl ⟨by rfl, ?_⟩) hHeld ?_
              rotate_left 1
              · intro W hSw
                (try dsimp only at hSw)
                go_simp
                try with_reducible rfl
              try simp only [Act.put, List.setIfInBounds_toArray, List.set_cons_zero, List.set_cons_succ]
              refine wpAnyH_done (by kernel_rfl) ?_ _
              clear hHeld
              go_upto_region 15 with fail
              obtain ⟨c0, c1, c2, c3, c4, c5, c6⟩ := HR.out.nv.box.cells
              obtain ⟨b0, b1, b2, b3, b4, b5, b6⟩ := HR.out.bb.cells
              simp only at c0 c1 c2 c3 c4 c5 c6 b0 b1 b2 b3 b4 b5 b6
              cases ah with
              | false =>
                go_upto_region 17 with fail
                go_upto_region 18 with (refine wpList_store_mid rfl 26 _ _ rfl N 0 #[.int .i64 br, .int .i64 bm, .bool bh, .int .i64 ba, .int .i64 bn, .string bv, .slice bx Lb by'] rfl rfl HR.out.nv.box.there sizeAcc (acc_one _ _ _ _ _ _ _ _ _) ?_)
                have HN9 : Hid (NvS w N ⟨br, bm, bh, ba, bn, bv, bc⟩ (.slice bx Lb by') (W.setCells N 0 [.int .i64 br, .int .i64 bm, .bool bh, .int .i64 ba, .int .i64 bn, .string bv, .slice bx Lb by'])) := Lib.hid HR.out.next
                clear c0 c1 c2 c3 c4 c5 c6 b0 b1 b2 b3 b4 b5 b6
                generalize W.setCells N 0 _ = W9 at HN9 ⊢
                go_wp2
                go_roundw
                case rel => exact ⟨k + 1, ⟨br, bm, bh, ba, bn, bv, bc⟩, .slice bx Lb by', by omega, by go_num, HN9, Lib.hid HK.out.ok⟩
                case measure => simp [intOf]; omega
              | true =>
                by_cases hle : Lb = La
                · obtain ⟨hbh, hlu⟩ := HLu.out rfl hle
                  have HLw := Lib.hid hlu
                  subst hbh
                  have hle2 : True → ((Lb : Int) == (La : Int)) = true := fun _ => by simp [hle]
                  clear hlu hle
                  go_upto_region 17 with (go_at_call 22; refine (HLw.out _).mono ?_; rintro e V ⟨rfl, hb⟩; have HR := Lib.hid (HR.out.keep hb); clear hb c0 c1 c2 c3 c4 c5 c6 b0 b1 b2 b3 b4 b5 b6)
                  obtain ⟨W, rfl⟩ : ∃ U, U = V := ⟨_, rfl⟩
                  obtain ⟨c0, c1, c2, c3, c4, c5, c6⟩ := HR.out.nv.box.cells
                  obtain ⟨b0, b1, b2, b3, b4, b5, b6⟩ := HR.out.bb.cells
                  simp only at c0 c1 c2 c3 c4 c5 c6 b0 b1 b2 b3 b4 b5 b6
                  go_upto_region 18 with (refine wpList_store_mid rfl 26 _ _ rfl N 0 #[.int .i64 br, .int .i64 bm, .bool true, .int .i64 ba, .int .i64 bn, .string bv, .slice bx Lb by'] rfl rfl HR.out.nv.box.there sizeAcc (acc_one _ _ _ _ _ _ _ _ _) ?_)
                  have HN9 : Hid (NvS w N ⟨br, bm, true, ba, bn, bv, bc⟩ (.slice bx Lb by') (W.setCells N 0 [.int .i64 br, .int .i64 bm, .bool true, .int .i64 ba, .int .i64 bn, .string bv, .slice bx Lb by'])) := Lib.hid HR.out.next
                  clear c0 c1 c2 c3 c4 c5 c6 b0 b1 b2 b3 b4 b5 b6
                  generalize W.setCells N 0 _ = W9 at HN9 ⊢
                  go_wp2
                  go_roundw
                  case rel => exact ⟨k + 1, ⟨br, bm, true, ba, bn, bv, bc⟩, .slice bx Lb by', by omega, by go_num, HN9, Lib.hid HK.out.ok⟩
                  case measure => simp [intOf]; omega
                · have hle2 : True → ((Lb : Int) == (La : Int)) = false := fun _ => by simp; omega
                  go_upto_region 17 with fail
                  go_upto_region 18 with (refine wpList_store_mid rfl 26 _ _ rfl N 0 #[.int .i64 br, .int .i64 bm, .bool bh, .int .i64 ba, .int .i64 bn, .string bv, .slice bx Lb by'] rfl rfl HR.out.nv.box.there sizeAcc (acc_one _ _ _ _ _ _ _ _ _) ?_)
                  have HN9 : Hid (NvS w N ⟨br, bm, bh, ba, bn, bv, bc⟩ (.slice bx Lb by') (W.setCells N 0 [.int .i64 br, .int .i64 bm, .bool bh, .int .i64 ba, .int .i64 bn, .string bv, .slice bx Lb by'])) := Lib.hid HR.out.next
                  clear c0 c1 c2 c3 c4 c5 c6 b0 b1 b2 b3 b4 b5 b6
                  generalize W.setCells N 0 _ = W9 at HN9 ⊢
                  go_wp2
                  go_roundw
                  case rel => exact ⟨k + 1, ⟨br, bm, bh, ba, bn, bv, bc⟩, .slice bx Lb by', by omega, by go_num, HN9, Lib.hid HK.out.ok⟩
                  case measure => simp [intOf]; omega
            exact AllReadyH.nil
          exact AllReadyH.nil
        exact AllReadyH.nil
        --R13dE
    · obtain rfl : k = L := by omega
      have HB := Lib.hid HA.out.bel
      go_wp2_with (go_at_call 7; refine (awake_any _).mono ?_; rintro e w5 ⟨rfl, hb⟩; have HB5 := Lib.hid (HB.out.trans (hb.mono HB.out.size)); clear hb)
      go_ret
      exact ⟨rfl, HB5.out⟩
end Go.Proofs.Ytoeklnmmnmmjeaa.crush
