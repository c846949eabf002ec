/- The tries of a plan, one after another. -/
import Derived.Test.YtngmcolbpdinmaaRows
import Derived.Test.YtngmcolbpdinmaaRulePlan
import Derived.Test.YtngmcolbpdinmaaCrushChoose
namespace Go.Proofs.Ytngmcolbpdinmaa.crush
open Go.RowKit
open Go.Proofs.Ytngmcolbpdinmaa.kit Go.Proofs.Ytngmcolbpdinmaa.own Go.Proofs.Ytngmcolbpdinmaa.iter Go.Proofs.Ytngmcolbpdinmaa.heldin
set_option linter.unusedVariables false

/-- How the body of a round may be left: by its end (Rt), or by a jump (Rx). -/
def bodyEndsX (D : Nat) (r : LoopState → Option Code → Loop) (Rt : World → Prop) (Rx : Code → World → Prop) : Exit → Act → World → Prop
  | .normal, _, W => W.heap[D + 1]? = some (.loop (r .busy none)) ∧ Rt (W.putObj (D + 1) (.loop (r .ready none)))
  | .ret, _, W => W.heap[D + 1]? = some (.loop (r .busy none)) ∧ Rx .ret (W.putObj (D + 1) (.loop (r .done (some .ret))))
  | .exit id, _, W => W.heap[D + 1]? = some (.loop (r .busy none)) ∧ Rx (.exit id) (W.putObj (D + 1) (.loop (r .done (some (.exit id)))))
  | .goto _, _, _ => False
  | .panic _, _, _ => False
  | .outgrown, _, _ => False

theorem yield_roundX {P : Program} {fn : FuncId} {tmps : Array Value} {ps : Array Tmp} {assign body : Code} {D m : Nat} {W : World} {args : Array Value} {Rt : World → Prop} {Rx : Code → World → Prop} {rec : LoopState → Option Code → Loop} (hrec : rec = lrec fn tmps ps assign body D)
    (hb : Book W D (rec .ready none)) (hs : args.size = ps.size)
    (h : assign.wpIn (Fence.wide.inRound (D + 1)) m P (Exit.then (fun a1 W1 => W1.heap[D + 1]? = some (.loop (rec .ready none)) ∧
        body.wpIn (Fence.wide.inRound (D + 1)) m P (bodyEndsX D rec Rt Rx) a1 (W1.putObj (D + 1) (.loop (rec .busy none)))) (fun _ _ _ => False))
      { tmps := (ps.zip args).foldl (fun t (p, v) => t.setIfInBounds p v) tmps, defers := [] } W) :
    YieldAt Fence.wide m P (D + 1) args W fun e W' => (e = .returned (.bool true) ∧ Rt W') ∨ (e = .returned (.bool false) ∧ ∃ c, Rx c W') := by
  subst hrec
  have hy := run_yield (P := P) (args := args) hb.1 hs
  refine ⟨fn, _, assign, body, hy, roundIn_of_wpIn trivial ?_⟩
  refine wpIn_mono h ?_
  rintro e a1 W1 hp
  cases e with
  | normal =>
    obtain ⟨hl, hbody⟩ := hp
    refine ⟨_, run_beginRound hl rfl, ?_⟩
    refine wpIn_mono hbody ?_
    rintro e2 a2 W2 hq
    cases e2 with
    | normal => obtain ⟨h1, h2⟩ := hq; exact ⟨_, _, run_endRound none h1, .inl ⟨rfl, h2⟩⟩
    | ret => obtain ⟨h1, h2⟩ := hq; exact ⟨_, _, run_endRound (some .ret) h1, .inr ⟨rfl, _, h2⟩⟩
    | exit id => obtain ⟨h1, h2⟩ := hq; exact ⟨_, _, run_endRound (some (.exit id)) h1, .inr ⟨rfl, _, h2⟩⟩
    | goto t => exact hq.elim
    | panic c => exact hq.elim
    | outgrown => exact hq.elim
  | exit id => exact hp.elim
  | goto t => exact hp.elim
  | ret => exact hp.elim
  | panic c => exact hp.elim
  | outgrown => exact hp.elim

theorem range_stmtX {P : Program} {g : Operand} {ps : Array Tmp} {assign body : Code} {Q : Exit → Act → World → Prop} {a : Act} {w : World} {gf : Nat} {lb : Array Value} {n : Nat} {I : World → Prop} {X : Code → World → Prop}
    (hg : a.eval g = .func (.func gf) #[] lb) (eg : ∀ args w, (callFunc gf args).run P w = .ok (.enter gf args) w)
    (hit : ∀ fn rec, rec = lrec fn a.tmps ps assign body w.heap.size → CallsIn Fence.wide (n - 1) P gf (#[.func (.yield (w.heap.size + 1)) #[] #[]] ++ lb) ((w.alloc (.deferred (some []))).alloc (.loop (rec .ready none))) fun e W => (∃ v, e = .returned v) ∧
      ((I W ∧ Book W w.heap.size (rec .ready none)) ∨ (∃ c, X c W ∧ Book W w.heap.size (rec .done (some c)))))
    (hdone : ∀ (W : World) (r r' : Loop), I W → Book W w.heap.size r → Q .normal { a with defers := { target := .collected w.heap.size, args := #[] } :: a.defers } (W.putObj (w.heap.size + 1) (.loop r')))
    (hstop : ∀ (W : World) (c : Code) (r r' : Loop), X c W → Book W w.heap.size r → c.wpIn Fence.wide n P Q { a with defers := { target := .collected w.heap.size, args := #[] } :: a.defers } (W.putObj (w.heap.size + 1) (.loop r'))) :
    (Code.rangeFunc g ps assign body).wpIn Fence.wide n P Q a w := by
  refine wpIn_rangeFunc ?_
  intro fn hfn
  obtain ⟨W1, hW1⟩ : ∃ W1, (w.alloc (.deferred (some []))).alloc (.loop (lrec fn a.tmps ps assign body w.heap.size .ready none)) = W1 := ⟨_, rfl⟩
  have hit' := hit fn _ rfl
  rw [hW1] at hit'
  refine ⟨w.heap.size + 1, [{ target := .collected w.heap.size, args := #[] }], W1, { target := .fn (.func gf) lb, args := #[.func (.yield (w.heap.size + 1)) #[] #[]] }, W1, gf,
    #[.func (.yield (w.heap.size + 1)) #[] #[]] ++ lb, W1, ?_, ?_, fun _ _ => trivial, ?_, (fun h => by cases h), ?_⟩
  · rw [← hW1]; exact run_enterLoop_outer _ _ _ _ _
  · simp only [resolve, hg]
    simp [go_sem]
  · simp [invoke, go_sem, eg]
  · refine hit'.mono ?_
    rintro e W ⟨⟨v, rfl⟩, (⟨hi, hl, hk⟩ | ⟨c, hi, hl, hk⟩)⟩
    · exact ⟨none, _, run_endLoop hl (by simp [lrec]), hdone _ _ _ hi ⟨hl, hk⟩⟩
    · exact ⟨some c, _, run_endLoop hl (by simp [lrec]), hstop _ c _ _ hi ⟨hl, hk⟩⟩

attribute [local go_sem] Oper.semAt_some

set_option maxHeartbeats 4000000 in
theorem tries_any (a b c : Value) (m x : Int) (w : World) : Calls Try.prog 24 #[.agg #[a, b, c, .int .i64 m], .int .u32 x] w fun e w' =>
    e = .returned (.func (.func 32) #[] #[.pointer (some ⟨w.heap.size, 0, none⟩), .pointer (some ⟨w.heap.size + 1, 0, none⟩)]) ∧
      w' = (w.alloc (.cells #[a, b, c, .int .i64 m] 36)).alloc (.cells #[.int .u32 x] 24) := by
  have hmf : ∀ (fn : Fn) (first cap : Array Value) (w : World), (Instr.makeFunc fn first cap).run Try.prog w = .ok (.func fn first cap) w := fun _ _ _ _ => rfl
  go_enter Try.func24, Try.ntmps24
  go_wp2
  go_ret
  exact ⟨rfl, rfl⟩

theorem plan_at {W : World} {vi : Value} {an : Option Addr} {nl cn : Nat} {its : List It} {nds : List (List It)} {i : Nat} (hin : i < nds.length) {nd : List It} (hnd : nds[i] = nd) (h : PlanRd W vi (.slice an nl cn) its nds) :
    ∃ bk off s1 s3, (an = some (⟨bk, off, none⟩ : Addr) ∧ nl = nds.length) ∧ ∀ u, Below W.heap.size W u → u.cell? ⟨bk, off + i, none⟩ = some (.slice s1 nd.length s3) ∧ Sl wc 2 u (.slice s1 nd.length s3) nd := by
  subst hnd
  obtain ⟨h1, svs, h2, h3, h4⟩ := h
  have his : i < svs.length := by omega
  have h5 := h4 i his hin
  obtain ⟨_, a, c, he, -, hc⟩ := h2
  obtain ⟨b, off, ha, hb, hr⟩ := hc (by omega)
  have hr := hr i his 0 _ rfl
  rw [Nat.mul_one, Nat.add_zero] at hr
  obtain ⟨a5, c5, e5⟩ := h5.slice
  rw [e5] at hr h5
  refine ⟨b, off, a5, c5, ⟨by cases he; exact ha, by cases he; exact h3⟩, fun u hu => ⟨?_, h5.keep hu⟩⟩
  rw [← hr]
  simp only [World.cell?, hu.block b hb]

set_option maxHeartbeats 16000000 in
set_option maxRecDepth 100000 in
theorem tries1_any (l b0 b1 : Nat) (x : Nat) (hx : x < 4294967296) (vi vn vd : Value) (its : List It) (nds : List (List It)) (m : Int) (I : Nat → World → Prop) (X : World → Prop)
    (hl1 : its.length ≤ 65536) (hl2 : nds.length = its.length) (hl3 : ∀ i (h : i < nds.length), nds[i].length ≤ 65536) (hpos : ∀ i (h : i < nds.length), ∀ y ∈ nds[i], 0 ≤ y.1)
    (hcells : ∀ r W, I r W → PBox W b0 vi vn vd m ∧ W.cell? ⟨b1, 0, none⟩ = some (.int .u32 x) ∧ PlanRd W vi vn its nds)
    (hbelow : ∀ r W W', I r W → Below W.heap.size W W' → I r W')
    (hskip : ∀ r W, r < 64 → (∃ i, pick (keys x (r : Nat) its) = some i) → tryP its nds x (r : Nat) = none → I r W → I (r + 1) W)
    (hyield : ∀ r W v, r < 64 → tryP its nds x (r : Nat) = some v → I r W → YieldAt Fence.wide 0 Try.prog l #[.int .i64 (v : Nat)] W fun e W' => (e = .returned (.bool true) ∧ I (r + 1) W') ∨ (e = .returned (.bool false) ∧ X W'))
    (W : World) (h0 : I 0 W) :
    CallsIn Fence.wide 0 Try.prog 32 #[.func (.yield l) #[] #[], .pointer (some ⟨b0, 0, none⟩), .pointer (some ⟨b1, 0, none⟩)] W fun e W' => (∃ v, e = .returned v) ∧ (I 64 W' ∨ (∃ r : Nat, r ≤ 64 ∧ pick (keys x r its) = none ∧ I r W') ∨ X W') := by
  have HC := Lib.hid hcells; have HBl := Lib.hid hbelow; have HSk := Lib.hid hskip; have HY := Lib.hid hyield; have HI0 := Lib.hid h0
  have HX := Lib.hid hx; have HL1 := Lib.hid hl1; have HL2 := Lib.hid hl2; have HL3 := Lib.hid hl3; have HPo := Lib.hid hpos
  obtain ⟨⟨ai, ci, rfl⟩, svs0, hn, -, -⟩ := And.intro (hcells 0 W h0).2.2.1.slice (hcells 0 W h0).2.2.2
  obtain ⟨an, cn, rfl⟩ := hn.slice
  clear hcells hbelow hskip hyield h0 hx hl1 hl2 hl3 hpos hn
  refine callsIn_of_wp Try.func32 rfl trivial ?_ rfl
  simp only [Try.ntmps32, List.size_toArray, List.length_cons, List.length_nil, Nat.reduceAdd, Nat.reduceSub, Array.replicate_succ, Array.replicate_zero, List.push_toArray, List.append_toArray, List.nil_append, List.cons_append]
  gi_wp2
  gi_loopw [8] (fun v wr => ∃ r : Nat, r ≤ 64 ∧ v = .int .i64 r ∧ I r wr) (fun v _ => 64 - (intOf v).toNat)
  case atStart => exact ⟨0, by omega, rfl, HI0.out⟩
  case round =>
    obtain ⟨r, hr, rfl, hi⟩ := hrel
    by_cases hlt : r < 64
    · have hlt' : (r : Int) < 64 := by omega
      have hr0 : (0 : Int) ≤ r := by omega
      obtain ⟨hp, c2, hpl⟩ := HC.out r wr hi
      obtain ⟨c1, -, -, -⟩ := hp.cells
      have HCh := Lib.hid (Choose_any _ its x r HX.out (by have := HL1.out; omega) wr hpl.1)
      have HI := Lib.hid hi
      clear hp hpl hi
      cases hpk : pick (keys x (r : Nat) its) with
      | none =>
        unfold chosen at HCh
        rw [hpk] at HCh
        simp only [Option.getD_none, Option.isSome_none] at HCh
        gi_wp2_with (refine ⟨trivial, rfl, ?_⟩; gi_at_call 33; refine (callsIn_wide.2 HCh.out).mono ?_; rintro e w1 ⟨rfl, hb⟩; have HI1 := Lib.hid (HBl.out r wr w1 HI.out hb); clear hb)
        refine bodyPost_ret (results_none rfl _ _ _) rfl ?_
        exact ⟨⟨_, rfl⟩, .inr (.inl ⟨r, hr, hpk, HI1.out⟩)⟩
      | some i =>
        unfold chosen at HCh
        rw [hpk] at HCh
        simp only [Option.getD_some, Option.isSome_some] at HCh
        have hil : i < its.length := by have := pick_lt hpk; rwa [keys_len] at this
        have hin : i < nds.length := by rw [HL2.out]; exact hil
        --R5B
        have hnd : nds.getD i [] = nds[i] := by rw [List.getD_eq_getElem?_getD, List.getElem?_eq_getElem hin]; rfl
        obtain ⟨nd, hnd2⟩ : ∃ nd, nds[i] = nd := ⟨_, rfl⟩
        have hdl := HL3.out i hin
        have hps := HPo.out i hin
        rw [hnd2] at hnd hdl hps
        have HNd := Lib.hid (show ∃ h : i < nds.length, nds[i] = nd from ⟨hin, hnd2⟩)
        obtain ⟨nl, hnl⟩ : ∃ n, svs0.length = n := ⟨_, rfl⟩
        rw [hnl] at HC
        have HTry : Hid (tryP its nds x (r : Nat) = match pick (keys x ((r : Int) + 64) nd) with
          | none => none
          | some k => some (nd.getD k (0, 0)).1.toNat) := Lib.hid (by unfold tryP; rw [hpk]; show (match pick (keys x ((r : Int) + 64) (nds.getD i [])) with | none => none | some k => some ((nds.getD i []).getD k (0, 0)).1.toNat) = _; rw [hnd])
        obtain ⟨bk, off, s1, s3, he, hall⟩ := plan_at hin hnd2 ((HC.out r wr HI.out).2.2)
        obtain ⟨rfl, rfl⟩ : an = some ⟨bk, off, none⟩ ∧ nl = nds.length := he
        obtain ⟨dl, hdl2⟩ : ∃ n, nd.length = n := ⟨_, rfl⟩
        obtain ⟨nl, hnl2⟩ : ∃ n, nds.length = n := ⟨_, rfl⟩
        rw [hnl2] at HC
        rw [hdl2] at hall hdl
        have HAll := Lib.hid hall
        have HDl := Lib.hid hdl2
        have HPs := Lib.hid hps
        have hin' : (i : Int) < nl := by omega
        have hi0 : (0 : Int) ≤ i := by omega
        have hil' : (i : Int) ≤ 65536 := by have := HL1.out; omega
        clear hnd hnd2 hdl2 hall hps hin hil hnl hnl2
        gi_upto_region 5 with (refine ⟨trivial, rfl, ?_⟩; gi_at_call 33; refine (callsIn_wide.2 HCh.out).mono ?_; rintro e w1 ⟨rfl, hb⟩; have HI1 := Lib.hid (HBl.out r wr w1 HI.out hb); have HBe := Lib.hid hb; clear hb c1 c2)
        have hd : Below w1.heap.size w1 w1.drew := below_drew (Below.refl _ _)
        have HI2 := Lib.hid (HBl.out r w1 _ HI1.out hd)
        have HB2 := Lib.hid (HBe.out.trans (hd.mono HBe.out.size))
        have HCh2 := Lib.hid (Choose_any (.slice s1 dl s3) nd x ((r : Int) + 64) HX.out (by have := HDl.out; omega) w1.drew (HAll.out _ HB2.out).2)
        unfold chosen at HCh2
        obtain ⟨k0, hk0⟩ : ∃ k, (((pick (keys x ((r : Int) + 64) nd)).getD 0 : Nat) : Int) = k := ⟨_, rfl⟩
        obtain ⟨is, his⟩ : ∃ b, (pick (keys x ((r : Int) + 64) nd)).isSome = b := ⟨_, rfl⟩
        have HKI := Lib.hid (And.intro hk0 his)
        rw [hk0, his] at HCh2
        have HS5 : Hid (∀ u, I r u → Below wr.heap.size wr u → u.cell? ⟨b0, 1, none⟩ = some (.slice (some ⟨bk, off, none⟩) nl cn) ∧ u.cell? ⟨bk, off + i, none⟩ = some (.slice s1 dl s3) ∧ u.cell? ⟨b1, 0, none⟩ = some (.int .u32 x)) := Lib.hid (fun u h1 h2 => by
          obtain ⟨q1, q2, q3⟩ := HC.out r u h1
          exact ⟨q1.cells.2.1, (HAll.out u h2).1, q2⟩)
        have hw64 : IntKind.i64.wrap ((r : Int) + 64) = (r : Int) + 64 := by rw [IntKind.wrap_i64]; omega
        clear hd HCh HI1 hk0 his
        refine wpIn_calm ?_
        refine region_heldIn (S := fun u => u.cell? ⟨b0, 1, none⟩ = some (.slice (some ⟨bk, off, none⟩) nl cn) ∧ u.cell? ⟨bk, off + i, none⟩ = some (.slice s1 dl s3) ∧ u.cell? ⟨b1, 0, none⟩ = some (.int .u32 x)) (by kernel_rfl) (HS5.out _ HI2.out HB2.out) (fun hHeld => ?_)
        refine heldIn_take (i := 0) (oi := { dst := some 22, op := Op.fieldAddr 36 (Operand.tmp 1) 1, type := 0, pos := "plan.go:76", after := #[], guard := none }) (v := ?_) rfl rfl (by kernel_rfl) (by kernel_rfl) (by kernel_rfl) (fun _ _ _ h => h) (Or.inl ⟨by rfl, ?_⟩) (fun _ => rfl) hHeld ?_
        rotate_left 1
        · intro W hSw
          (try dsimp only at hSw)
          go_simp
          try with_reducible rfl
        try simp only [Act.put, List.setIfInBounds_toArray, List.set_cons_zero, List.set_cons_succ]
        refine heldIn_take (i := 1) (oi := { dst := some 23, op := Op.load 34 (Operand.tmp 22), type := 34, pos := "plan.go:76", after := #[{ on := 0, ground := Ground.data }], guard := none }) (v := ?_) rfl rfl (by kernel_rfl) (by kernel_rfl) (by kernel_rfl) (fun _ _ _ h => h) (Or.inl ⟨by rfl, ?_⟩) (fun _ => rfl) hHeld ?_
        rotate_left 1
        · intro W hSw
          (try dsimp only at hSw)
          go_simp
          try with_reducible rfl
        try simp only [Act.put, List.setIfInBounds_toArray, List.set_cons_zero, List.set_cons_succ]
        refine heldIn_take (i := 2) (oi := { dst := some 24, op := Op.move (Operand.tmp 5), type := 3, pos := "plan.go:76", after := #[], guard := none }) (v := ?_) rfl rfl (by kernel_rfl) (by kernel_rfl) (by kernel_rfl) (fun _ _ _ h => h) (Or.inl ⟨by rfl, ?_⟩) (fun _ => rfl) hHeld ?_
        rotate_left 1
        · intro W hSw
          (try dsimp only at hSw)
          go_simp
          try with_reducible rfl
        try simp only [Act.put, List.setIfInBounds_toArray, List.set_cons_zero, List.set_cons_succ]
        refine heldIn_take (i := 3) (oi := { dst := some 25, op := Op.indexAddr 34 (Operand.tmp 23) (Operand.tmp 24), type := 0, pos := "plan.go:76", after := #[{ on := 1, ground := Ground.data }, { on := 2, ground := Ground.data }], guard := none }) (v := ?_) rfl rfl (by kernel_rfl) (by kernel_rfl) (by kernel_rfl) (fun _ _ _ h => h) (Or.inl ⟨by rfl, ?_⟩) (fun _ => rfl) hHeld ?_
        rotate_left 1
        · intro W hSw
          (try dsimp only at hSw)
          go_simp
          try with_reducible rfl
        try simp only [Act.put, List.setIfInBounds_toArray, List.set_cons_zero, List.set_cons_succ]
        refine heldIn_take (i := 4) (oi := { dst := some 26, op := Op.load 33 (Operand.tmp 25), type := 33, pos := "plan.go:76", after := #[{ on := 3, ground := Ground.data }], guard := none }) (v := ?_) rfl rfl (by kernel_rfl) (by kernel_rfl) (by kernel_rfl) (fun _ _ _ h => h) (Or.inl ⟨by rfl, ?_⟩) (fun _ => rfl) hHeld ?_
        rotate_left 1
        · intro W hSw
          (try dsimp only at hSw)
          go_simp
          try with_reducible rfl
        try simp only [Act.put, List.setIfInBounds_toArray, List.set_cons_zero, List.set_cons_succ]
        refine heldIn_take (i := 5) (oi := { dst := some 27, op := Op.load 24 (Operand.tmp 2), type := 24, pos := "plan.go:76", after := #[], guard := none }) (v := ?_) rfl rfl (by kernel_rfl) (by kernel_rfl) (by kernel_rfl) (fun _ _ _ h => h) (Or.inl ⟨by rfl, ?_⟩) (fun _ => rfl) hHeld ?_
        rotate_left 1
        · intro W hSw
          (try dsimp only at hSw)
          go_simp
          try with_reducible rfl
        try simp only [Act.put, List.setIfInBounds_toArray, List.set_cons_zero, List.set_cons_succ]
        refine heldIn_take (i := 6) (oi := { dst := some 28, op := Op.move (Operand.tmp 4), type := 3, pos := "plan.go:76", after := #[], guard := none }) (v := ?_) rfl rfl (by kernel_rfl) (by kernel_rfl) (by kernel_rfl) (fun _ _ _ h => h) (Or.inl ⟨by rfl, ?_⟩) (fun _ => rfl) hHeld ?_
        rotate_left 1
        · intro W hSw
          (try dsimp only at hSw)
          go_simp
          try with_reducible rfl
        try simp only [Act.put, List.setIfInBounds_toArray, List.set_cons_zero, List.set_cons_succ]
        refine heldIn_take (i := 7) (oi := { dst := some 29, op := Op.binOp BinOp.add 3 (Operand.tmp 28) (Operand.const (Value.int IntKind.i64 64)) 3, type := 3, pos := "plan.go:76", after := #[{ on := 6, ground := Ground.data }], guard := none }) (v := ?_) rfl rfl (by kernel_rfl) (by kernel_rfl) (by kernel_rfl) (fun _ _ _ h => h) (Or.inl ⟨by rfl, ?_⟩) (fun _ => rfl) hHeld ?_
        rotate_left 1
        · intro W hSw
          (try dsimp only at hSw)
          go_simp
          try with_reducible rfl
        try simp only [Act.put, List.setIfInBounds_toArray, List.set_cons_zero, List.set_cons_succ]
        refine heldIn_ready (rs := [8]) (by kernel_rfl) (by simp) ?_
        refine AllIn.cons (o := { dst := some 30, op := Op.call { callee := Callee.value (Operand.func 33), args := #[Operand.tmp 26, Operand.tmp 27, Operand.tmp 29], argTypes := #[33, 24, 3] }, type := 59, pos := "plan.go:76", after := #[{ on := 4, ground := Ground.data }, { on := 5, ground := Ground.data }, { on := 7, ground := Ground.data }], guard := none }) rfl (fun K7 hK7 => ?_) ?_
        · go_simp
          refine ⟨trivial, rfl, ?_⟩
          refine (callsIn_wide.2 HCh2.out).mono ?_
          rintro e w2 ⟨rfl, hb⟩
          have HI3 := Lib.hid (HBl.out r _ w2 HI2.out hb)
          have HB3 := Lib.hid (HB2.out.trans (hb.mono HB2.out.size))
          clear hb
          try dsimp only
          refine hK7.out _ _ (HS5.out _ HI3.out HB3.out) (fun hHeld => ?_)
          clear hK7 K7
          try simp only [Act.put, List.setIfInBounds_toArray, List.set_cons_zero, List.set_cons_succ]
          refine heldIn_take (i := 9) (oi := { dst := some 21, op := Op.move (Operand.tmp 30), type := 59, pos := "plan.go:76", after := #[{ on := 8, ground := Ground.data }], guard := none }) (v := ?_) rfl rfl (by kernel_rfl) (by kernel_rfl) (by kernel_rfl) (fun _ _ _ h => h) (Or.inl ⟨by rfl, ?_⟩) (fun _ => rfl) hHeld ?_
          rotate_left 1
          · intro W hSw
            (try dsimp only at hSw)
            go_simp
            try with_reducible rfl
          try simp only [Act.put, List.setIfInBounds_toArray, List.set_cons_zero, List.set_cons_succ]
          refine heldIn_take (i := 10) (oi := { dst := some 31, op := Op.extract (Operand.tmp 21) 0, type := 3, pos := "plan.go:76", after := #[{ on := 9, ground := Ground.data }], guard := none }) (v := ?_) rfl rfl (by kernel_rfl) (by kernel_rfl) (by kernel_rfl) (fun _ _ _ h => h) (Or.inl ⟨by rfl, ?_⟩) (fun _ => rfl) hHeld ?_
          rotate_left 1
          · intro W hSw
            (try dsimp only at hSw)
            go_simp
            try with_reducible rfl
          try simp only [Act.put, List.setIfInBounds_toArray, List.set_cons_zero, List.set_cons_succ]
          refine heldIn_take (i := 11) (oi := { dst := some 32, op := Op.extract (Operand.tmp 21) 1, type := 4, pos := "plan.go:76", after := #[{ on := 9, ground := Ground.data }, { on := 12, ground := Ground.gcOnly Departure.lateStores }], guard := none }) (v := ?_) rfl rfl (by kernel_rfl) (by kernel_rfl) (by kernel_rfl) (fun _ _ _ h => h) (Or.inl ⟨by rfl, ?_⟩) (fun _ => rfl) hHeld ?_
          rotate_left 1
          · intro W hSw
            (try dsimp only at hSw)
            go_simp
            try with_reducible rfl
          try simp only [Act.put, List.setIfInBounds_toArray, List.set_cons_zero, List.set_cons_succ]
          refine heldIn_take (i := 12) (oi := { dst := some 7, op := Op.assign (Operand.tmp 31), type := 3, pos := "plan.go:76", after := #[{ on := 10, ground := Ground.data }, { on := 8, ground := Ground.chain }, { on := 0, ground := Ground.phase }, { on := 1, ground := Ground.phase }, { on := 2, ground := Ground.phase }, { on := 3, ground := Ground.phase }, { on := 4, ground := Ground.phase }, { on := 5, ground := Ground.phase }, { on := 6, ground := Ground.phase }, { on := 7, ground := Ground.phase }, { on := 8, ground := Ground.phase }, { on := 9, ground := Ground.phase }, { on := 10, ground := Ground.phase }, { on := 11, ground := Ground.textOnly Departure.lateStores }], guard := none }) (v := ?_) rfl rfl (by kernel_rfl) (by kernel_rfl) (by kernel_rfl) (fun _ _ _ h => h) (Or.inl ⟨by rfl, ?_⟩) (fun _ => rfl) hHeld ?_
          rotate_left 1
          · intro W hSw
            (try dsimp only at hSw)
            go_simp
            try with_reducible rfl
          try simp only [Act.put, List.setIfInBounds_toArray, List.set_cons_zero, List.set_cons_succ]
          refine heldIn_take (i := 13) (oi := { dst := some 6, op := Op.assign (Operand.tmp 32), type := 4, pos := "plan.go:76", after := #[{ on := 11, ground := Ground.data }, { on := 12, ground := Ground.chain }, { on := 0, ground := Ground.phase }, { on := 1, ground := Ground.phase }, { on := 2, ground := Ground.phase }, { on := 3, ground := Ground.phase }, { on := 4, ground := Ground.phase }, { on := 5, ground := Ground.phase }, { on := 6, ground := Ground.phase }, { on := 7, ground := Ground.phase }, { on := 8, ground := Ground.phase }, { on := 9, ground := Ground.phase }, { on := 10, ground := Ground.phase }, { on := 11, ground := Ground.phase }, { on := 12, ground := Ground.phase }], guard := none }) (v := ?_) rfl rfl (by kernel_rfl) (by kernel_rfl) (by kernel_rfl) (fun _ _ _ h => h) (Or.inl ⟨by rfl, ?_⟩) (fun _ => rfl) hHeld ?_
          rotate_left 1
          · intro W hSw
            (try dsimp only at hSw)
            go_simp
            try with_reducible rfl
          try simp only [Act.put, List.setIfInBounds_toArray, List.set_cons_zero, List.set_cons_succ]
          refine heldIn_done (by kernel_rfl) ?_ _
          refine calm_normal ?_
          clear hHeld
          cases is with
          | false =>
            have hpn : pick (keys x ((r : Int) + 64) nd) = none := by have := HKI.out.2; simpa using this
            have HI4 := Lib.hid (HSk.out r w2 hlt ⟨i, hpk⟩ (by rw [HTry.out, hpn]) HI3.out)
            clear HKI hpn
            gi_wp2
            refine ⟨fun f h => (by cases h), ?_⟩
            gi_wp2
            go_roundw
            case rel => exact ⟨r + 1, by omega, by go_num, HI4.out⟩
            case measure => simp [intOf]; omega
          | true =>
            obtain ⟨k, hpk2⟩ : ∃ k, pick (keys x ((r : Int) + 64) nd) = some k := by
              have := HKI.out.2
              cases h : pick (keys x ((r : Int) + 64) nd) with
              | none => rw [h] at this; cases this
              | some k => exact ⟨k, rfl⟩
            have hke : k0 = (k : Int) := by have := HKI.out.1; rw [hpk2] at this; exact this.symm
            subst hke
            have hkl : k < nd.length := by have := pick_lt hpk2; rwa [keys_len] at this
            have hkd : nd.getD k (0, 0) = nd[k] := by rw [List.getD_eq_getElem?_getD, List.getElem?_eq_getElem hkl]; rfl
            have hkp := HPs.out nd[k] (List.getElem_mem hkl)
            have HYk := Lib.hid (HY.out r w2 nd[k].1.toNat hlt (by rw [HTry.out, hpk2]; simp only; rw [hkd]) HI3.out)
            have e5 : ((nd[k].1.toNat : Nat) : Int) = nd[k].1 := by omega
            rw [e5] at HYk
            obtain ⟨q1, q2, q3⟩ := HC.out r w2 HI3.out
            obtain ⟨-, g1, -, -⟩ := q1.cells
            have g2 := (HAll.out w2 HB3.out).1
            obtain ⟨_, a9, c9, he9, -, hc9⟩ := (HAll.out w2 HB3.out).2
            obtain ⟨b9, o9, e9, hb9, hr9⟩ := hc9 (by omega)
            obtain ⟨rfl, rfl⟩ : s1 = some ⟨b9, o9, none⟩ ∧ s3 = c9 := by cases he9; exact ⟨e9, rfl⟩
            obtain ⟨g3, -⟩ := wcells_at (hr9 k hkl)
            have hkd' : (k : Int) < dl := by have := HDl.out; omega
            have hk00 : (0 : Int) ≤ k := by omega
            generalize nd[k].1 = id9 at g3 HYk
            obtain ⟨fn, tmps, asg, bd, hy, hYr⟩ := HYk.out
            have HYr := Lib.hid hYr
            clear hYr HKI hkd hkp e5 q1 q2 q3 he9 e9 hb9 hr9 hc9 hkl hpk2
            gi_wp2
            refine ⟨rfl, HYr.out.mono ?_⟩
            rintro e W3 (⟨rfl, hI⟩ | ⟨rfl, hX⟩)
            · have HI4 := Lib.hid hI
              clear hI hy g1 g2 g3
              gi_wp2
              go_roundw
              case rel => exact ⟨r + 1, by omega, by go_num, HI4.out⟩
              case measure => simp [intOf]; omega
            · have HX4 := Lib.hid hX
              clear hX hy g1 g2 g3
              gi_wp2
              refine bodyPost_ret (results_none rfl _ _ _) rfl ?_
              exact ⟨⟨_, rfl⟩, .inr (.inr HX4.out)⟩
        exact AllIn.nil
    · obtain rfl : r = 64 := by omega
      have HI := Lib.hid hi
      clear hi
      gi_wp2
      go_end0
      exact ⟨⟨_, rfl⟩, .inl HI.out⟩
end Go.Proofs.Ytngmcolbpdinmaa.crush
