/- AcceptDoes (P15.2 to P15.6): the law's walk. -/
import Derived.Test.YtmdipcemhaomhaaRows
import Derived.Test.YtmdipcemhaomhaaAccVal
import Derived.Test.YtmdipcemhaomhaaAccTexts
import Derived.Test.YtmdipcemhaomhaaAccAwake
import Derived.Test.YtmdipcemhaomhaaAccRAcc
import Derived.Test.YtmdipcemhaomhaaAccRVal
import Derived.Test.YtmdipcemhaomhaaAccRProm
import Derived.Test.YtmdipcemhaomhaaAccRFit
import Derived.Test.YtmdipcemhaomhaaAccRLrn
namespace Go.Proofs.Ytmdipcemhaomhaa.crush
open Go.RowKit
open Go.Proofs.Ytmdipcemhaomhaa.kit Go.Proofs.Ytmdipcemhaomhaa.own
set_option linter.unusedVariables false
set_option linter.unusedSimpArgs false

/-- What each pair of calls hands back: an acceptor in memory of its own, and a word. -/
def CaS (w : World) (x : AccV) (r : Value) (e : Ending) (w' : World) : Prop := ∃ s, e = .returned (.tuple #[x.agg s, r]) ∧ Own tx 1 9 w' w.heap.size s x.com ∧ Below w.heap.size w w'
theorem accE_comD (a : AccV) (b : BalV) (n : Int) (t : ByteArray) : (accE a b n t).com = a.com := by
  unfold accE
  split
  · split
    · exact prepE_com a b
    · exact prepE_com a b
  · rfl
theorem PrepS.ca {w : World} {a : AccV} {b : BalV} {e : Ending} {w' : World} (h : PrepS w a b e w') : CaS w (prepE a b) (.bool (prepOk a b)) e w' := by
  obtain ⟨s, h1, h2, h3⟩ := h
  exact ⟨s, h1, by rw [prepE_com]; exact h2, h3⟩
theorem AcptS.ca {w : World} {a : AccV} {b : BalV} {n : Int} {t : ByteArray} {e : Ending} {w' : World} (h : AcptS w a b n t e w') : CaS w (accE a b n t) (.int .i64 (accN a b n t)) e w' := by
  obtain ⟨s, h1, h2, h3⟩ := h
  exact ⟨s, h1, by rw [accE_comD]; exact h2, h3⟩
theorem far_rowD {α : Type} {enc : α → List Value} {k e B : Nat} {v : Value} {xs : List α} {N : Nat} (hN : ∀ g, v.ownBlock = some g → g ≠ N) : ∀ (vs : List Value) (o : Nat) {W : World} (h : Own enc k e W B v xs), Own enc k e (W.setCells N o vs) B v xs
  | [], _, _, h => h
  | u :: vs, o, _, h => far_rowD hN vs (o + 1) (h.setOther (fun e => hN N e rfl) o u)
/-- The boxes of the law: the acceptor, the ballot, the copy. -/
structure DoS (w : World) (N K : Nat) (a : AccV) (b : BalV) (s so : Value) (W : World) : Prop where
  hN : N = w.heap.size
  bel : Below w.heap.size w W
  A : ABox W N a.pr a.pm a.has a.ar a.am a.val s
  B : W.heap[N + 1]? = some (.cells #[.int .i64 b.r, .int .i64 b.m] 23 (0, 0))
  own : ABox W K a.pr a.pm a.has a.ar a.am a.val so
  ro : Own tx 1 9 W (N + 2) so a.com
  hK : N + 1 < K
/-- .. and the two that are compared. -/
structure DoX (w : World) (N K X Y : Nat) (a : AccV) (b : BalV) (s so : Value) (x : AccV) (sx : Value) (y : AccV) (sy : Value) (W : World) : Prop where
  d : DoS w N K a b s so W
  fX : ABox W X x.pr x.pm x.has x.ar x.am x.val sx
  fY : ABox W Y y.pr y.pm y.has y.ar y.am y.val sy
  rx : Own tx 1 9 W (N + 2) sx x.com
  ry : Own tx 1 9 W (N + 2) sy y.com
  hX : K < X
  hY : X < Y
section
variable {w : World} {N K X Y : Nat} {a : AccV} {b : BalV} {s so : Value} {x y : AccV} {sx sy : Value} {W W' : World}
theorem DoS.keep (h : DoS w N K a b s so W) (hb : Below W.heap.size W W') : DoS w N K a b s so W' :=
  ⟨h.hN, h.bel.trans (hb.mono h.bel.size), h.A.keep hb, (hb.block _ (Array.getElem?_eq_some_iff.1 h.B).1).trans h.B, h.own.keep hb, h.ro.below hb, h.hK⟩
theorem DoS.bal (h : DoS w N K a b s so W) : W.cell? ⟨N + 1, 0, none⟩ = some (.int .i64 b.r) ∧ W.cell? ⟨N + 1, 1, none⟩ = some (.int .i64 b.m) := by
  have := h.B
  refine ⟨?_, ?_⟩ <;> simp [World.cell?, this]
theorem DoX.keep (h : DoX w N K X Y a b s so x sx y sy W) (hb : Below W.heap.size W W') : DoX w N K X Y a b s so x sx y sy W' :=
  ⟨h.d.keep hb, h.fX.keep hb, h.fY.keep hb, h.rx.below hb, h.ry.below hb, h.hX, h.hY⟩
theorem row_ne {B e : Nat} {v : Value} {l : List ByteArray} {M : Nat} {pr pm : Int} {has : Bool} {ar am : Int} {val : ByteArray} {s : Value} (h : Own tx 1 9 W B v l) (hM : ABox W M pr pm has ar am val s) : ∀ g, v.ownBlock = some g → g ≠ M := fun g hg e => by
  obtain ⟨cur, hc⟩ : ∃ cur, W.heap[g]? = some (.cells cur 9 (0, 0)) := by
    rcases h.at with ⟨rfl, -⟩ | ⟨g2, cap, rfl, -, hat⟩
    · cases hg
    · cases hg
      obtain ⟨cur, h4, -⟩ := hat.ex
      exact ⟨cur, h4⟩
  rw [e] at hc
  unfold ABox at hM
  rw [hM] at hc
  cases hc
theorem DoS.far (h : DoS w N K a b s so W) {M : Nat} (hM : K < M) {pr pm : Int} {has : Bool} {ar am : Int} {val : ByteArray} {t : Value} (hA : ABox W M pr pm has ar am val t) (vs : List Value) : DoS w N K a b s so (W.setCells M 0 vs) := by
  have h1 := h.hK; have h2 := h.hN
  exact ⟨h.hN, Below.setCells h.bel (by omega) 0 _, (heap_setCells_other M _ 0 W _ (by omega)).trans h.A, (heap_setCells_other M _ 0 W _ (by omega)).trans h.B, (heap_setCells_other M _ 0 W _ (by omega)).trans h.own, far_rowD (row_ne (e := 0) h.ro hA) _ 0 h.ro, h.hK⟩
/-- What a call has made is laid into the first box. -/
theorem DoX.layX (h : DoX w N K X Y a b s so x sx y sy W) (x' : AccV) (s' : Value) (ho : Own tx 1 9 W (N + 2) s' x'.com) :
    DoX w N K X Y a b s so x' s' y sy (W.setCells X 0 [.int .i64 x'.pr, .int .i64 x'.pm, .bool x'.has, .int .i64 x'.ar, .int .i64 x'.am, .string x'.val, s']) := by
  have h1 := h.hX; have h2 := h.hY
  exact ⟨h.d.far h1 h.fX _, h.fX.put _ _ _ _ _ _ _, (heap_setCells_other X _ 0 W _ (by omega)).trans h.fY, far_rowD (row_ne (e := 0) ho h.fX) _ 0 ho, far_rowD (row_ne (e := 0) h.ry h.fX) _ 0 h.ry, h1, h2⟩
theorem DoX.layY (h : DoX w N K X Y a b s so x sx y sy W) (x' : AccV) (s' : Value) (ho : Own tx 1 9 W (N + 2) s' x'.com) :
    DoX w N K X Y a b s so x sx x' s' (W.setCells Y 0 [.int .i64 x'.pr, .int .i64 x'.pm, .bool x'.has, .int .i64 x'.ar, .int .i64 x'.am, .string x'.val, s']) := by
  have h1 := h.hX; have h2 := h.hY
  exact ⟨h.d.far (by omega) h.fY _, (heap_setCells_other Y _ 0 W _ (by omega)).trans h.fX, h.fY.put _ _ _ _ _ _ _, far_rowD (row_ne (e := 0) h.rx h.fY) _ 0 h.rx, far_rowD (row_ne (e := 0) ho h.fY) _ 0 ho, h1, h2⟩
end

set_option maxHeartbeats 32000000 in
set_option maxRecDepth 100000 in
theorem walkDoes (v : Value) (a : AccV) (b : BalV) (ver : Int) (t : ByteArray) (f : Int) (vl : Value) (l : List ByteArray) (mon most : Int) (w : World) (ha : AccR w v a) (hf : I64 f) (hs : Sl tx 1 w vl l) (hcl : ∃ x c, vl = .slice x l.length c ∧ l.length ≤ c) (hmo : I64 most) :
    Calls Try.prog 3 #[v, b.val, .int .i64 ver, .string t, .int .i64 f, vl, .int .i64 mon, .int .i64 most] w fun e w' => e = .returned (.bool true) ∧ Below w.heap.size w w' := by
  obtain ⟨s, rfl, hsa⟩ := ha
  have HSl := Lib.hid (fun u (hu : Below w.heap.size w u) => hsa.keep hu)
  have HVl := Lib.hid (fun u (hu : Below w.heap.size w u) => hs.keep hu)
  have HFi := Lib.hid hf; have HCl := Lib.hid hcl; have HMo := Lib.hid hmo
  obtain ⟨px, cx, rfl⟩ := hsa.slice
  obtain ⟨pl, cl, rfl⟩ := hs.slice
  have hb0 := (below_new w (.cells #[.int .i64 a.pr, .int .i64 a.pm, .bool a.has, .int .i64 a.ar, .int .i64 a.am, .string a.val, .slice px a.com.length cx] 26))
  have hA0 := abox_new w a.pr a.pm a.has a.ar a.am a.val (.slice px a.com.length cx)
  generalize hU : w.alloc (.cells #[.int .i64 a.pr, .int .i64 a.pm, .bool a.has, .int .i64 a.ar, .int .i64 a.am, .string a.val, .slice px a.com.length cx] 26) = U at hb0 hA0
  have hb1 := (below_new U (.cells #[.int .i64 b.r, .int .i64 b.m] 23))
  have HB0 := Lib.hid (hb0.trans (hb1.mono hb0.size)); have HA0 := Lib.hid (hA0.keep hb1); have HBb := Lib.hid (alloc_at U (.cells #[.int .i64 b.r, .int .i64 b.m] 23))
  have hUs : U.heap.size = w.heap.size + 1 := by rw [← hU]; rw [World.size_alloc]
  rw [hUs] at HBb
  clear hb0 hb1 hA0 hsa hs hf hcl hmo
  unfold AccV.agg BalV.val
  go_enter Try.func3, Try.ntmps3
  go_upto_region 1 with fail
  clear hU hUs
  generalize U.alloc _ = W at HB0 HA0 HBb ⊢
  obtain ⟨c0, c1, c2, c3, c4, c5, c6⟩ := HA0.out.cells
  have HFit := Lib.hid (fun u (hu : Below w.heap.size w u) => rFit15_any (a.agg (.slice px a.com.length cx)) a u ⟨_, rfl, HSl.out u hu⟩)
  have HAw := Lib.hid awake_any
  unfold FitS AccV.agg at HFit
  go_upto_region 2 with (go_at_call 7; refine (HFit.out _ HB0.out).mono ?_; rintro e w1 ⟨q, rfl, hq, hb⟩; have HQ := Lib.hid hq; have HB1 := Lib.hid (HB0.out.trans (hb.mono HB0.out.size)); have HA1 := Lib.hid (HA0.out.keep hb); have HBb1 : Hid (w1.heap[w.heap.size + 1]? = some (.cells #[.int .i64 b.r, .int .i64 b.m] 23 (0, 0))) := Lib.hid ((hb.block _ (Array.getElem?_eq_some_iff.1 HBb.out).1).trans HBb.out); clear hb hq c0 c1 c2 c3 c4 c5 c6; obtain ⟨c0, c1, c2, c3, c4, c5, c6⟩ := HA1.out.cells; cases q)
  next =>
    go_wp2_with (go_at_call 8; refine (HAw.out _).mono ?_; rintro e w2 ⟨rfl, hb⟩; have HB2 := Lib.hid (HB1.out.trans (hb.mono HB1.out.size)); clear hb)
    go_ret
    exact ⟨rfl, HB2.out⟩
  next =>
    have hlen : a.com.length ≤ 4096 := by first | exact HQ.out rfl | exact HQ.out trivial | exact HQ.out
    have hl16 : a.com.length * 16 ≤ 140737488355328 := by omega
    have HLn := Lib.hid hlen
    clear HQ HFit
    have HCp := Lib.hid (fun u (hu : Below w.heap.size w u) => rCopy_any (a.agg (.slice px a.com.length cx)) a u ⟨_, rfl, HSl.out u hu⟩ hl16)
    have HP1 := Lib.hid (fun K so u (h : DoS w w.heap.size K a b (.slice px a.com.length cx) so u) => (Prepare_any (a.agg so) a b u (own_accR h.ro) hl16).mono (fun _ _ h => h.ca))
    have HP2 := Lib.hid (fun K so u (h : DoS w w.heap.size K a b (.slice px a.com.length cx) so u) => (rPrepare_any (a.agg (.slice px a.com.length cx)) a b u ⟨_, rfl, HSl.out _ h.bel⟩ hl16).mono (fun _ _ h => h.ca))
    have HA1' := Lib.hid (fun K so u (h : DoS w w.heap.size K a b (.slice px a.com.length cx) so u) => (Accept_any (a.agg so) a b ver t u (own_accR h.ro) hl16).mono (fun _ _ h => h.ca))
    have HA2' := Lib.hid (fun K so u (h : DoS w w.heap.size K a b (.slice px a.com.length cx) so u) => (rAccept_any (a.agg (.slice px a.com.length cx)) a b ver t u ⟨_, rfl, HSl.out _ h.bel⟩ hl16).mono (fun _ _ h => h.ca))
    have HL1 := Lib.hid (fun K so u (h : DoS w w.heap.size K a b (.slice px a.com.length cx) so u) => (Learn_any (a.agg so) a f _ l u (own_accR h.ro) hl16 HFi.out (HVl.out u h.bel) HCl.out).mono (fun e w' h => (show CaS u (learnE a f l) (.int .i64 ((learnL a f l).length : Int)) e w' from h)))
    have HL2 := Lib.hid (fun K so u (h : DoS w w.heap.size K a b (.slice px a.com.length cx) so u) => (rLearn_any (a.agg (.slice px a.com.length cx)) a f _ l u ⟨_, rfl, HSl.out _ h.bel⟩ hl16 HFi.out (HVl.out u h.bel)).mono (fun e w' h => (show CaS u (learnE a f l) (.int .i64 ((learnL a f l).length : Int)) e w' from h)))
    have HM1 := Lib.hid (fun K so u (h : DoS w w.heap.size K a b (.slice px a.com.length cx) so u) => Promise_any (a.agg so) a mon f u (own_accR h.ro) (own_roomy h.ro) hl16)
    have HM2 := Lib.hid (fun K so u (h : DoS w w.heap.size K a b (.slice px a.com.length cx) so u) => rPromise_any (a.agg (.slice px a.com.length cx)) a mon f u ⟨_, rfl, HSl.out _ h.bel⟩ hlen)
    have HV1 := Lib.hid (fun K so u (h : DoS w w.heap.size K a b (.slice px a.com.length cx) so u) => Values_any (a.agg so) a f most u (own_accR h.ro) (own_roomy h.ro) hl16)
    have HV2 := Lib.hid (fun K so u (h : DoS w w.heap.size K a b (.slice px a.com.length cx) so u) => rValues_any (a.agg (.slice px a.com.length cx)) a f most u ⟨_, rfl, HSl.out _ h.bel⟩ hl16)
    have HS1 := Lib.hid (fun x sx sy B C u (h1 : Own tx 1 9 u B sx x.com) (h2 : Own tx 1 9 u C sy x.com) => rSame_self (x.agg sx) (x.agg sy) x u (own_accR h1) (own_accR h2))
    have HS2 := Lib.hid (fun K so u (h : DoS w w.heap.size K a b (.slice px a.com.length cx) so u) => rSame_self (a.agg so) (a.agg (.slice px a.com.length cx)) a u (own_accR h.ro) ⟨_, rfl, HSl.out _ h.bel⟩)
    have HT := Lib.hid (fun v1 v2 xs u (h1 : Sl tx 1 u v1 xs) (h2 : Sl tx 1 u v2 xs) => (Texts_any v1 v2 xs xs u h1 h2).mono (fun e w' h => (show e = .returned (.bool true) ∧ Below u.heap.size u w' from ⟨by rw [h.1]; simp, h.2⟩)))
    generalize prepE a b = xp at HP1 HP2
    generalize prepOk a b = rp at HP1 HP2
    generalize accE a b ver t = xa at HA1' HA2'
    generalize accN a b ver t = ra at HA1' HA2'
    generalize learnE a f l = xl at HL1 HL2
    generalize ((learnL a f l).length : Int) = rl at HL1 HL2
    generalize fromL a.com f = fl at HM1 HM2
    generalize valL a.com f most = vv at HV1 HV2
    unfold AccS AccV.agg at HCp
    unfold CaS AccV.agg BalV.val at HP1 HP2 HA1' HA2'
    unfold CaS AccV.agg at HL1 HL2
    unfold PromS AccV.agg at HM1 HM2
    unfold RowS AccV.agg at HV1 HV2
    unfold AccV.agg at HS1 HS2
    clear hlen hl16
    go_upto_region 4 with (go_at_call 9; refine (HCp.out _ HB1.out).mono ?_; rintro e w2 ⟨s2, rfl, ho, hb⟩; obtain ⟨po, co, rfl⟩ := ho.slice; have HO2 := Lib.hid (ho.mono (show w.heap.size + 2 ≤ _ from (Array.getElem?_eq_some_iff.1 HBb1.out).1)); have HB2 := Lib.hid (HB1.out.trans (hb.mono HB1.out.size)); have HA2 := Lib.hid (HA1.out.keep hb); have HBb2 : Hid (w2.heap[w.heap.size + 1]? = some (.cells #[.int .i64 b.r, .int .i64 b.m] 23 (0, 0))) := Lib.hid ((hb.block _ (Array.getElem?_eq_some_iff.1 HBb1.out).1).trans HBb1.out); clear ho hb c0 c1 c2 c3 c4 c5 c6)
    have HD : Hid (DoS w w.heap.size w2.heap.size a b (.slice px a.com.length cx) (.slice po a.com.length co) (w2.alloc (.cells #[.int .i64 a.pr, .int .i64 a.pm, .bool a.has, .int .i64 a.ar, .int .i64 a.am, .string a.val, .slice po a.com.length co] 26))) := by
      have hb := below_new w2 (.cells #[.int .i64 a.pr, .int .i64 a.pm, .bool a.has, .int .i64 a.ar, .int .i64 a.am, .string a.val, .slice po a.com.length co] 26)
      exact Lib.hid ⟨rfl, HB2.out.trans (hb.mono HB2.out.size), HA2.out.keep hb, (hb.block _ (Array.getElem?_eq_some_iff.1 HBb2.out).1).trans HBb2.out, abox_new _ _ _ _ _ _ _ _, HO2.out.below hb, (Array.getElem?_eq_some_iff.1 HBb2.out).1⟩
    clear HA0 HA1 HA2 HBb HBb1 HBb2 HB0 HB1 HB2 HO2 HCp
    generalize w2.alloc _ = W2 at HD ⊢
    generalize w2.heap.size = K at HD ⊢
    obtain ⟨c0, c1, c2, c3, c4, c5, c6⟩ := HD.out.own.cells
    obtain ⟨b0, b1⟩ := HD.out.bal
    go_upto_region 5 with (go_at_call 10; refine (HP1.out _ _ _ HD.out).mono ?_; rintro e w3 ⟨s3, rfl, ho, hb⟩; obtain ⟨p3, k3, rfl⟩ := ho.slice; have HO3 := Lib.hid (ho.mono (show w.heap.size + 2 ≤ _ from (Array.getElem?_eq_some_iff.1 HD.out.B).1)); have HD3 := Lib.hid (HD.out.keep hb); clear ho hb c0 c1 c2 c3 c4 c5 c6 b0 b1)
    have hb3 := below_new w3 (.cells #[.int .i64 xp.pr, .int .i64 xp.pm, .bool xp.has, .int .i64 xp.ar, .int .i64 xp.am, .string xp.val, .slice p3 xp.com.length k3] 26)
    have HD4 := Lib.hid (HD3.out.keep hb3)
    have HX4 := Lib.hid (abox_new w3 xp.pr xp.pm xp.has xp.ar xp.am xp.val (.slice p3 xp.com.length k3))
    have HO4 := Lib.hid (HO3.out.below hb3)
    have HK4 := Lib.hid (show K < w3.heap.size from (Array.getElem?_eq_some_iff.1 HD3.out.own).1)
    clear hb3 HD HD3 HO3
    generalize w3.alloc _ = W4 at HD4 HX4 HO4 ⊢
    generalize w3.heap.size = X at HX4 HK4 ⊢
    obtain ⟨c0, c1, c2, c3, c4, c5, c6⟩ := HD4.out.A.cells
    obtain ⟨b0, b1⟩ := HD4.out.bal
    go_upto_region 6 with (go_at_call 11; refine (HP2.out _ _ _ HD4.out).mono ?_; rintro e w5 ⟨s5, rfl, ho, hb⟩; obtain ⟨p5, k5, rfl⟩ := ho.slice; have HO5 := Lib.hid (ho.mono (show w.heap.size + 2 ≤ _ from (Array.getElem?_eq_some_iff.1 HD4.out.B).1)); have HD5 := Lib.hid (HD4.out.keep hb); have HX5 := Lib.hid (HX4.out.keep hb); have HR5 := Lib.hid (HO4.out.below hb); clear ho hb c0 c1 c2 c3 c4 c5 c6 b0 b1)
    have HE : Hid (DoX w w.heap.size K X w5.heap.size a b (.slice px a.com.length cx) (.slice po a.com.length co) xp (.slice p3 xp.com.length k3) xp (.slice p5 xp.com.length k5) (w5.alloc (.cells #[.int .i64 xp.pr, .int .i64 xp.pm, .bool xp.has, .int .i64 xp.ar, .int .i64 xp.am, .string xp.val, .slice p5 xp.com.length k5] 26))) := by
      have hb := below_new w5 (.cells #[.int .i64 xp.pr, .int .i64 xp.pm, .bool xp.has, .int .i64 xp.ar, .int .i64 xp.am, .string xp.val, .slice p5 xp.com.length k5] 26)
      exact Lib.hid ⟨HD5.out.keep hb, HX5.out.keep hb, abox_new _ _ _ _ _ _ _ _, HR5.out.below hb, HO5.out.below hb, HK4.out, (Array.getElem?_eq_some_iff.1 HX5.out).1⟩
    clear HD4 HD5 HX4 HX5 HO4 HO5 HR5 HK4
    generalize w5.alloc _ = W6 at HE ⊢
    generalize w5.heap.size = Y at HE ⊢
    obtain ⟨c0, c1, c2, c3, c4, c5, c6⟩ := HE.out.fX.cells
    obtain ⟨d0, d1, d2, d3, d4, d5, d6⟩ := HE.out.fY.cells
    go_upto_region 8 with (go_at_call 12; refine (HS1.out _ _ _ _ _ _ HE.out.rx HE.out.ry).mono ?_; rintro e w7 ⟨rfl, hb⟩; have HE7 := Lib.hid (HE.out.keep hb); clear hb c0 c1 c2 c3 c4 c5 c6 d0 d1 d2 d3 d4 d5 d6)
    obtain ⟨c0, c1, c2, c3, c4, c5, c6⟩ := HE7.out.d.own.cells
    obtain ⟨b0, b1⟩ := HE7.out.d.bal
    go_upto_region 9 with (first
      | (go_at_call 13; refine (HA1'.out _ _ _ HE7.out.d).mono ?_; rintro e w8 ⟨s8, rfl, ho, hb⟩; obtain ⟨p8, k8, rfl⟩ := ho.slice; have HO8 := Lib.hid (ho.mono (show w.heap.size + 2 ≤ _ from (Array.getElem?_eq_some_iff.1 HE7.out.d.B).1)); have HF8 := Lib.hid (HE7.out.keep hb); clear ho hb c0 c1 c2 c3 c4 c5 c6 b0 b1)
      | (refine wpList_store_mid rfl 26 _ _ rfl X 0 #[.int .i64 xa.pr, .int .i64 xa.pm, .bool xa.has, .int .i64 xa.ar, .int .i64 xa.am, .string xa.val, .slice p8 xa.com.length k8] rfl rfl HF8.out.fX.there sizeAcc (acc_one _ _ _ _ _ _ _ _ _) ?_; have HE8 := Lib.hid (HF8.out.layX xa (.slice p8 xa.com.length k8) HO8.out); generalize (w8.setCells X 0 (#[.int .i64 xa.pr, .int .i64 xa.pm, .bool xa.has, .int .i64 xa.ar, .int .i64 xa.am, .string xa.val, .slice p8 xa.com.length k8] : Array Value).toList) = W8 at HE8 ⊢))
    clear HE7 HO8 HF8
    obtain ⟨c0, c1, c2, c3, c4, c5, c6⟩ := HE8.out.d.A.cells
    obtain ⟨b0, b1⟩ := HE8.out.d.bal
    go_upto_region 10 with (first
      | (go_at_call 14; refine (HA2'.out _ _ _ HE8.out.d).mono ?_; rintro e w9 ⟨s9, rfl, ho, hb⟩; obtain ⟨p9, k9, rfl⟩ := ho.slice; have HO9 := Lib.hid (ho.mono (show w.heap.size + 2 ≤ _ from (Array.getElem?_eq_some_iff.1 HE8.out.d.B).1)); have HF9 := Lib.hid (HE8.out.keep hb); clear ho hb c0 c1 c2 c3 c4 c5 c6 b0 b1)
      | (refine wpList_store_mid rfl 26 _ _ rfl Y 0 #[.int .i64 xa.pr, .int .i64 xa.pm, .bool xa.has, .int .i64 xa.ar, .int .i64 xa.am, .string xa.val, .slice p9 xa.com.length k9] rfl rfl HF9.out.fY.there sizeAcc (acc_one _ _ _ _ _ _ _ _ _) ?_; have HE9 := Lib.hid (HF9.out.layY xa (.slice p9 xa.com.length k9) HO9.out); generalize (w9.setCells Y 0 (#[.int .i64 xa.pr, .int .i64 xa.pm, .bool xa.has, .int .i64 xa.ar, .int .i64 xa.am, .string xa.val, .slice p9 xa.com.length k9] : Array Value).toList) = W9 at HE9 ⊢))
    clear HE8 HO9 HF9
    obtain ⟨c0, c1, c2, c3, c4, c5, c6⟩ := HE9.out.fX.cells
    obtain ⟨d0, d1, d2, d3, d4, d5, d6⟩ := HE9.out.fY.cells
    go_upto_region 12 with (go_at_call 12; refine (HS1.out _ _ _ _ _ _ HE9.out.rx HE9.out.ry).mono ?_; rintro e w10 ⟨rfl, hb⟩; have HE10 := Lib.hid (HE9.out.keep hb); clear hb c0 c1 c2 c3 c4 c5 c6 d0 d1 d2 d3 d4 d5 d6)
    clear HE9
    obtain ⟨c0, c1, c2, c3, c4, c5, c6⟩ := HE10.out.d.own.cells
    go_upto_region 13 with (first
      | (go_at_call 15; refine (HL1.out _ _ _ HE10.out.d).mono ?_; rintro e w11 ⟨s11, rfl, ho, hb⟩; obtain ⟨p11, k11, rfl⟩ := ho.slice; have HO11 := Lib.hid (ho.mono (show w.heap.size + 2 ≤ _ from (Array.getElem?_eq_some_iff.1 HE10.out.d.B).1)); have HF11 := Lib.hid (HE10.out.keep hb); clear ho hb c0 c1 c2 c3 c4 c5 c6)
      | (refine wpList_store_mid rfl 26 _ _ rfl X 0 #[.int .i64 xl.pr, .int .i64 xl.pm, .bool xl.has, .int .i64 xl.ar, .int .i64 xl.am, .string xl.val, .slice p11 xl.com.length k11] rfl rfl HF11.out.fX.there sizeAcc (acc_one _ _ _ _ _ _ _ _ _) ?_; have HE11 := Lib.hid (HF11.out.layX xl (.slice p11 xl.com.length k11) HO11.out); generalize (w11.setCells X 0 (#[.int .i64 xl.pr, .int .i64 xl.pm, .bool xl.has, .int .i64 xl.ar, .int .i64 xl.am, .string xl.val, .slice p11 xl.com.length k11] : Array Value).toList) = W11 at HE11 ⊢))
    clear HE10 HO11 HF11
    obtain ⟨c0, c1, c2, c3, c4, c5, c6⟩ := HE11.out.d.A.cells
    go_upto_region 14 with (first
      | (go_at_call 16; refine (HL2.out _ _ _ HE11.out.d).mono ?_; rintro e w12 ⟨s12, rfl, ho, hb⟩; obtain ⟨p12, k12, rfl⟩ := ho.slice; have HO12 := Lib.hid (ho.mono (show w.heap.size + 2 ≤ _ from (Array.getElem?_eq_some_iff.1 HE11.out.d.B).1)); have HF12 := Lib.hid (HE11.out.keep hb); clear ho hb c0 c1 c2 c3 c4 c5 c6)
      | (refine wpList_store_mid rfl 26 _ _ rfl Y 0 #[.int .i64 xl.pr, .int .i64 xl.pm, .bool xl.has, .int .i64 xl.ar, .int .i64 xl.am, .string xl.val, .slice p12 xl.com.length k12] rfl rfl HF12.out.fY.there sizeAcc (acc_one _ _ _ _ _ _ _ _ _) ?_; have HE12 := Lib.hid (HF12.out.layY xl (.slice p12 xl.com.length k12) HO12.out); generalize (w12.setCells Y 0 (#[.int .i64 xl.pr, .int .i64 xl.pm, .bool xl.has, .int .i64 xl.ar, .int .i64 xl.am, .string xl.val, .slice p12 xl.com.length k12] : Array Value).toList) = W12 at HE12 ⊢))
    clear HE11 HO12 HF12
    obtain ⟨c0, c1, c2, c3, c4, c5, c6⟩ := HE12.out.fX.cells
    obtain ⟨d0, d1, d2, d3, d4, d5, d6⟩ := HE12.out.fY.cells
    go_upto_region 16 with (go_at_call 12; refine (HS1.out _ _ _ _ _ _ HE12.out.rx HE12.out.ry).mono ?_; rintro e w13 ⟨rfl, hb⟩; have HE13 := Lib.hid (HE12.out.keep hb); clear hb c0 c1 c2 c3 c4 c5 c6 d0 d1 d2 d3 d4 d5 d6)
    clear HE12
    have HD := Lib.hid HE13.out.d
    clear HE13
    obtain ⟨c0, c1, c2, c3, c4, c5, c6⟩ := HD.out.own.cells
    go_upto_region 17 with (go_at_call 17; refine (HM1.out _ _ _ HD.out).mono ?_; rintro e u1 ⟨s1, rfl, ho, hb⟩; obtain ⟨p1, k1, rfl⟩ := ho.slice; have HO1 := Lib.hid (ho.read tx_len); have HD1 := Lib.hid (HD.out.keep hb); clear ho hb c0 c1 c2 c3 c4 c5 c6)
    have hbn := below_new u1 (.cells #[.int .i64 mon, .int .i64 (a.com.length : Int), .bool a.has, .int .i64 a.ar, .int .i64 a.am, .string a.val] 37)
    have HP := Lib.hid (pbox_new u1 mon (a.com.length : Int) a.has a.ar a.am a.val)
    have HD2 := Lib.hid (HD1.out.keep hbn)
    have HO2 := Lib.hid (HO1.out.keep hbn)
    clear hbn HD HD1 HO1
    generalize u1.alloc _ = U2 at HP HD2 HO2 ⊢
    generalize u1.heap.size = P at HP ⊢
    obtain ⟨c0, c1, c2, c3, c4, c5, c6⟩ := HD2.out.A.cells
    go_upto_region 18 with (go_at_call 18; refine (HM2.out _ _ _ HD2.out).mono ?_; rintro e u3 ⟨s3, rfl, ho, hb⟩; obtain ⟨p3, k3, rfl⟩ := ho.slice; have HO3 := Lib.hid (ho.read tx_len); have HO4 := Lib.hid (HO2.out.keep hb); have HP3 := Lib.hid (HP.out.keep hb); have HD3 := Lib.hid (HD2.out.keep hb); clear ho hb c0 c1 c2 c3 c4 c5 c6)
    have hbn := below_new u3 (.cells #[.int .i64 mon, .int .i64 (a.com.length : Int), .bool a.has, .int .i64 a.ar, .int .i64 a.am, .string a.val] 37)
    have HQ5 := Lib.hid (pbox_new u3 mon (a.com.length : Int) a.has a.ar a.am a.val)
    have HP5 := Lib.hid (HP3.out.keep hbn)
    have HD5 := Lib.hid (HD3.out.keep hbn)
    have HO5 := Lib.hid (HO4.out.keep hbn)
    have HO6 := Lib.hid (HO3.out.keep hbn)
    clear hbn HD2 HD3 HP HP3 HO2 HO3 HO4
    generalize u3.alloc _ = U at HQ5 HP5 HD5 HO5 HO6 ⊢
    generalize u3.heap.size = Q at HQ5 ⊢
    --R18
    have HP5 := Lib.hid (HP5.out.keep (below_drew (Below.refl _ _)))
    have HQ5 := Lib.hid (HQ5.out.keep (below_drew (Below.refl _ _)))
    have HD5 := Lib.hid (HD5.out.keep (below_drew (Below.refl _ _)))
    have HO5 := Lib.hid (HO5.out.keep (below_drew (Below.refl _ _)))
    have HO6 := Lib.hid (HO6.out.keep (below_drew (Below.refl _ _)))
    refine wp_region_held_drew (S := fun u => (u.cell? ⟨P, 0, none⟩ = some (.int .i64 mon) ∧ u.cell? ⟨P, 1, none⟩ = some (.int .i64 (a.com.length : Int)) ∧ u.cell? ⟨P, 2, none⟩ = some (.bool a.has) ∧ u.cell? ⟨P, 3, none⟩ = some (.int .i64 a.ar) ∧ u.cell? ⟨P, 4, none⟩ = some (.int .i64 a.am) ∧ u.cell? ⟨P, 5, none⟩ = some (.string a.val)) ∧ (u.cell? ⟨Q, 0, none⟩ = some (.int .i64 mon) ∧ u.cell? ⟨Q, 1, none⟩ = some (.int .i64 (a.com.length : Int)) ∧ u.cell? ⟨Q, 2, none⟩ = some (.bool a.has) ∧ u.cell? ⟨Q, 3, none⟩ = some (.int .i64 a.ar) ∧ u.cell? ⟨Q, 4, none⟩ = some (.int .i64 a.am) ∧ u.cell? ⟨Q, 5, none⟩ = some (.string a.val)) ∧ (u.cell? ⟨K, 0, none⟩ = some (.int .i64 a.pr) ∧ u.cell? ⟨K, 1, none⟩ = some (.int .i64 a.pm) ∧ u.cell? ⟨K, 2, none⟩ = some (.bool a.has) ∧ u.cell? ⟨K, 3, none⟩ = some (.int .i64 a.ar) ∧ u.cell? ⟨K, 4, none⟩ = some (.int .i64 a.am) ∧ u.cell? ⟨K, 5, none⟩ = some (.string a.val) ∧ u.cell? ⟨K, 6, none⟩ = some (.slice po a.com.length co)) ∧ (u.cell? ⟨w.heap.size, 0, none⟩ = some (.int .i64 a.pr) ∧ u.cell? ⟨w.heap.size, 1, none⟩ = some (.int .i64 a.pm) ∧ u.cell? ⟨w.heap.size, 2, none⟩ = some (.bool a.has) ∧ u.cell? ⟨w.heap.size, 3, none⟩ = some (.int .i64 a.ar) ∧ u.cell? ⟨w.heap.size, 4, none⟩ = some (.int .i64 a.am) ∧ u.cell? ⟨w.heap.size, 5, none⟩ = some (.string a.val) ∧ u.cell? ⟨w.heap.size, 6, none⟩ = some (.slice px a.com.length cx))) (by kernel_rfl) (⟨HP5.out.cells, HQ5.out.cells, HD5.out.own.cells, HD5.out.A.cells⟩) (fun hHeld => ?_)
    generalize U.drew = U at *
    refine wpAnyH_take (i := 0) (oi := { dst := some 117, op := Op.load 37 (Operand.tmp 24), type := 37, pos := "law.go:38", after := #[], guard := none }) (v := ?_) rfl (by kernel_rfl) (by kernel_rfl) (by kernel_rfl) (fun _ _ _ h => h) (Or.inl ⟨by rfl, ?_⟩) hHeld ?_
    rotate_left 1
    · intro W hSw
      (try dsimp only at hSw)
      go_simp
      try with_reducible rfl
    try simp only [Act.put, List.setIfInBounds_toArray, List.set_cons_zero, List.set_cons_succ]
    refine wpAnyH_take (i := 1) (oi := { dst := some 118, op := Op.load 37 (Operand.tmp 26), type := 37, pos := "law.go:38", after := #[], guard := none }) (v := ?_) rfl (by kernel_rfl) (by kernel_rfl) (by kernel_rfl) (fun _ _ _ h => h) (Or.inl ⟨by rfl, ?_⟩) hHeld ?_
    rotate_left 1
    · intro W hSw
      (try dsimp only at hSw)
      go_simp
      try with_reducible rfl
    try simp only [Act.put, List.setIfInBounds_toArray, List.set_cons_zero, List.set_cons_succ]
    refine wpAnyH_take (i := 2) (oi := { dst := some 119, op := Op.binOp BinOp.eql 37 (Operand.tmp 117) (Operand.tmp 118) 37, type := 4, pos := "law.go:38", after := #[{ on := 0, ground := Ground.data }, { on := 1, ground := Ground.data }], guard := none }) (v := ?_) rfl (by kernel_rfl) (by kernel_rfl) (by kernel_rfl) (fun _ _ _ h => h) (Or.inl ⟨by rfl, ?_⟩) hHeld ?_
    rotate_left 1
    · intro W hSw
      (try dsimp only at hSw)
      go_simp
      try with_reducible rfl
    try simp only [Act.put, List.setIfInBounds_toArray, List.set_cons_zero, List.set_cons_succ]
    refine wpAnyH_take (i := 3) (oi := { dst := some 120, op := Op.move (Operand.tmp 119), type := 4, pos := "law.go:38", after := #[{ on := 2, ground := Ground.data }], guard := none }) (v := ?_) rfl (by kernel_rfl) (by kernel_rfl) (by kernel_rfl) (fun _ _ _ h => h) (Or.inl ⟨by rfl, ?_⟩) hHeld ?_
    rotate_left 1
    · intro W hSw
      (try dsimp only at hSw)
      go_simp
      try with_reducible rfl
    try simp only [Act.put, List.setIfInBounds_toArray, List.set_cons_zero, List.set_cons_succ]
    refine wpAnyH_take (i := 4) (oi := { dst := some 121, op := Op.move (Operand.tmp 25), type := 24, pos := "law.go:38", after := #[{ on := 3, ground := Ground.guard }], guard := some (3, true) }) (v := ?_) rfl (by kernel_rfl) (by kernel_rfl) (by kernel_rfl) (fun _ _ _ h => h) (Or.inl ⟨by rfl, ?_⟩) hHeld ?_
    rotate_left 1
    · intro W hSw
      (try dsimp only at hSw)
      go_simp
      try with_reducible rfl
    try simp only [Act.put, List.setIfInBounds_toArray, List.set_cons_zero, List.set_cons_succ]
    refine wpAnyH_take (i := 5) (oi := { dst := some 122, op := Op.move (Operand.tmp 27), type := 24, pos := "law.go:38", after := #[{ on := 3, ground := Ground.guard }], guard := some (3, true) }) (v := ?_) rfl (by kernel_rfl) (by kernel_rfl) (by kernel_rfl) (fun _ _ _ h => h) (Or.inl ⟨by rfl, ?_⟩) hHeld ?_
    rotate_left 1
    · intro W hSw
      (try dsimp only at hSw)
      go_simp
      try with_reducible rfl
    try simp only [Act.put, List.setIfInBounds_toArray, List.set_cons_zero, List.set_cons_succ]
    refine wpAnyH_ready (rs := [6]) (by kernel_rfl) (by simp) ?_
    refine AllReadyH.cons (o := { dst := some 123, op := Op.call { callee := Callee.value (Operand.func 19), args := #[Operand.tmp 121, Operand.tmp 122], argTypes := #[24, 24] }, type := 4, pos := "law.go:38", after := #[{ on := 4, ground := Ground.data }, { on := 5, ground := Ground.data }, { on := 3, ground := Ground.chain }, { on := 3, ground := Ground.guard }], guard := some (3, true) }) rfl (fun K7 hK7 => ?_) ?_
    · go_simp
      refine (HT.out _ _ _ _ HO5.out HO6.out).mono ?_
      rintro e V ⟨rfl, hb⟩
      have HP5 := Lib.hid (HP5.out.keep hb)
      have HQ5 := Lib.hid (HQ5.out.keep hb)
      have HD5 := Lib.hid (HD5.out.keep hb)
      clear hb
      obtain ⟨U, rfl⟩ : ∃ Z, Z = V := ⟨_, rfl⟩
      try dsimp only
      refine hK7.out _ _ (⟨HP5.out.cells, HQ5.out.cells, HD5.out.own.cells, HD5.out.A.cells⟩) (fun hHeld => ?_)
      clear hK7 K7
      try simp only [Act.put, List.setIfInBounds_toArray, List.set_cons_zero, List.set_cons_succ]
      refine wpAnyH_take (i := 7) (oi := { dst := some 124, op := Op.pick (Operand.tmp 120) (Operand.tmp 123) (Operand.const (Value.bool false)), type := 4, pos := "law.go:38", after := #[{ on := 3, ground := Ground.data }, { on := 6, ground := Ground.data }], guard := none }) (v := ?_) rfl (by kernel_rfl) (by kernel_rfl) (by kernel_rfl) (fun _ _ _ h => h) (Or.inl ⟨by rfl, ?_⟩) hHeld ?_
      rotate_left 1
      · intro W hSw
        (try dsimp only at hSw)
        go_simp
        try with_reducible rfl
      try simp only [Act.put, List.setIfInBounds_toArray, List.set_cons_zero, List.set_cons_succ]
      refine wpAnyH_take (i := 8) (oi := { dst := some 125, op := Op.move (Operand.tmp 124), type := 4, pos := "law.go:38", after := #[{ on := 7, ground := Ground.data }, { on := 6, ground := Ground.chain }], guard := none }) (v := ?_) rfl (by kernel_rfl) (by kernel_rfl) (by kernel_rfl) (fun _ _ _ h => h) (Or.inl ⟨by rfl, ?_⟩) hHeld ?_
      rotate_left 1
      · intro W hSw
        (try dsimp only at hSw)
        go_simp
        try with_reducible rfl
      try simp only [Act.put, List.setIfInBounds_toArray, List.set_cons_zero, List.set_cons_succ]
      refine wpAnyH_take (i := 9) (oi := { dst := some 126, op := Op.load 26 (Operand.tmp 17), type := 26, pos := "law.go:38", after := #[{ on := 8, ground := Ground.guard }], guard := some (8, true) }) (v := ?_) rfl (by kernel_rfl) (by kernel_rfl) (by kernel_rfl) (fun _ _ _ h => h) (Or.inl ⟨by rfl, ?_⟩) hHeld ?_
      rotate_left 1
      · intro W hSw
        (try dsimp only at hSw)
        go_simp
        try with_reducible rfl
      try simp only [Act.put, List.setIfInBounds_toArray, List.set_cons_zero, List.set_cons_succ]
      refine wpAnyH_take (i := 10) (oi := { dst := some 127, op := Op.move (Operand.tmp 4), type := 2, pos := "law.go:38", after := #[{ on := 8, ground := Ground.guard }], guard := some (8, true) }) (v := ?_) rfl (by kernel_rfl) (by kernel_rfl) (by kernel_rfl) (fun _ _ _ h => h) (Or.inl ⟨by rfl, ?_⟩) hHeld ?_
      rotate_left 1
      · intro W hSw
        (try dsimp only at hSw)
        go_simp
        try with_reducible rfl
      try simp only [Act.put, List.setIfInBounds_toArray, List.set_cons_zero, List.set_cons_succ]
      refine wpAnyH_take (i := 11) (oi := { dst := some 128, op := Op.move (Operand.tmp 7), type := 3, pos := "law.go:38", after := #[{ on := 8, ground := Ground.guard }], guard := some (8, true) }) (v := ?_) rfl (by kernel_rfl) (by kernel_rfl) (by kernel_rfl) (fun _ _ _ h => h) (Or.inl ⟨by rfl, ?_⟩) hHeld ?_
      rotate_left 1
      · intro W hSw
        (try dsimp only at hSw)
        go_simp
        try with_reducible rfl
      try simp only [Act.put, List.setIfInBounds_toArray, List.set_cons_zero, List.set_cons_succ]
      refine wpAnyH_take (i := 13) (oi := { dst := some 130, op := Op.load 26 (Operand.tmp 8), type := 26, pos := "law.go:38", after := #[{ on := 8, ground := Ground.guard }], guard := some (8, true) }) (v := ?_) rfl (by kernel_rfl) (by kernel_rfl) (by kernel_rfl) (fun _ _ _ h => h) (Or.inl ⟨by rfl, ?_⟩) hHeld ?_
      rotate_left 1
      · intro W hSw
        (try dsimp only at hSw)
        go_simp
        try with_reducible rfl
      try simp only [Act.put, List.setIfInBounds_toArray, List.set_cons_zero, List.set_cons_succ]
      refine wpAnyH_take (i := 14) (oi := { dst := some 131, op := Op.move (Operand.tmp 4), type := 2, pos := "law.go:38", after := #[{ on := 8, ground := Ground.guard }], guard := some (8, true) }) (v := ?_) rfl (by kernel_rfl) (by kernel_rfl) (by kernel_rfl) (fun _ _ _ h => h) (Or.inl ⟨by rfl, ?_⟩) hHeld ?_
      rotate_left 1
      · intro W hSw
        (try dsimp only at hSw)
        go_simp
        try with_reducible rfl
      try simp only [Act.put, List.setIfInBounds_toArray, List.set_cons_zero, List.set_cons_succ]
      refine wpAnyH_take (i := 15) (oi := { dst := some 132, op := Op.move (Operand.tmp 7), type := 3, pos := "law.go:38", after := #[{ on := 8, ground := Ground.guard }], guard := some (8, true) }) (v := ?_) rfl (by kernel_rfl) (by kernel_rfl) (by kernel_rfl) (fun _ _ _ h => h) (Or.inl ⟨by rfl, ?_⟩) hHeld ?_
      rotate_left 1
      · intro W hSw
        (try dsimp only at hSw)
        go_simp
        try with_reducible rfl
      try simp only [Act.put, List.setIfInBounds_toArray, List.set_cons_zero, List.set_cons_succ]
      refine wpAnyH_ready (rs := [12]) (by kernel_rfl) (by simp) ?_
      refine AllReadyH.cons (o := { dst := some 129, op := Op.call { callee := Callee.value (Operand.func 20), args := #[Operand.tmp 126, Operand.tmp 127, Operand.tmp 128], argTypes := #[26, 2, 3] }, type := 24, pos := "law.go:38", after := #[{ on := 9, ground := Ground.data }, { on := 10, ground := Ground.data }, { on := 11, ground := Ground.data }, { on := 8, ground := Ground.chain }, { on := 8, ground := Ground.guard }], guard := some (8, true) }) rfl (fun K7 hK7 => ?_) ?_
      · go_simp
        refine (HV1.out _ _ _ HD5.out).mono ?_
        rintro e V ⟨v1, rfl, ho, hb⟩
        have HR1 := Lib.hid (ho.read tx_len)
        have HP5 := Lib.hid (HP5.out.keep hb)
        have HQ5 := Lib.hid (HQ5.out.keep hb)
        have HD5 := Lib.hid (HD5.out.keep hb)
        clear ho
        clear hb
        obtain ⟨U, rfl⟩ : ∃ Z, Z = V := ⟨_, rfl⟩
        try dsimp only
        refine hK7.out _ _ (⟨HP5.out.cells, HQ5.out.cells, HD5.out.own.cells, HD5.out.A.cells⟩) (fun hHeld => ?_)
        clear hK7 K7
        try simp only [Act.put, List.setIfInBounds_toArray, List.set_cons_zero, List.set_cons_succ]
        refine wpAnyH_ready (rs := [16]) (by kernel_rfl) (by simp) ?_
        refine AllReadyH.cons (o := { dst := some 133, op := Op.call { callee := Callee.value (Operand.func 21), args := #[Operand.tmp 130, Operand.tmp 131, Operand.tmp 132], argTypes := #[26, 2, 3] }, type := 24, pos := "law.go:38", after := #[{ on := 13, ground := Ground.data }, { on := 14, ground := Ground.data }, { on := 15, ground := Ground.data }, { on := 12, ground := Ground.chain }, { on := 8, ground := Ground.guard }], guard := some (8, true) }) rfl (fun K7 hK7 => ?_) ?_
        · go_simp
          refine (HV2.out _ _ _ HD5.out).mono ?_
          rintro e V ⟨v2, rfl, ho, hb⟩
          have HR1 := Lib.hid (HR1.out.keep hb)
          have HR2 := Lib.hid (ho.read tx_len)
          have HP5 := Lib.hid (HP5.out.keep hb)
          have HQ5 := Lib.hid (HQ5.out.keep hb)
          have HD5 := Lib.hid (HD5.out.keep hb)
          clear ho
          clear hb
          obtain ⟨U, rfl⟩ : ∃ Z, Z = V := ⟨_, rfl⟩
          try dsimp only
          refine hK7.out _ _ (⟨HP5.out.cells, HQ5.out.cells, HD5.out.own.cells, HD5.out.A.cells⟩) (fun hHeld => ?_)
          clear hK7 K7
          try simp only [Act.put, List.setIfInBounds_toArray, List.set_cons_zero, List.set_cons_succ]
          refine wpAnyH_ready (rs := [17]) (by kernel_rfl) (by simp) ?_
          refine AllReadyH.cons (o := { dst := some 134, op := Op.call { callee := Callee.value (Operand.func 19), args := #[Operand.tmp 129, Operand.tmp 133], argTypes := #[24, 24] }, type := 4, pos := "law.go:38", after := #[{ on := 12, ground := Ground.data }, { on := 16, ground := Ground.data }, { on := 16, ground := Ground.chain }, { on := 8, ground := Ground.guard }], guard := some (8, true) }) rfl (fun K7 hK7 => ?_) ?_
          · go_simp
            refine (HT.out _ _ _ _ HR1.out HR2.out).mono ?_
            rintro e V ⟨rfl, hb⟩
            have HP5 := Lib.hid (HP5.out.keep hb)
            have HQ5 := Lib.hid (HQ5.out.keep hb)
            have HD5 := Lib.hid (HD5.out.keep hb)
            clear hb
            obtain ⟨U, rfl⟩ : ∃ Z, Z = V := ⟨_, rfl⟩
            try dsimp only
            refine hK7.out _ _ (⟨HP5.out.cells, HQ5.out.cells, HD5.out.own.cells, HD5.out.A.cells⟩) (fun hHeld => ?_)
            clear hK7 K7
            try simp only [Act.put, List.setIfInBounds_toArray, List.set_cons_zero, List.set_cons_succ]
            refine wpAnyH_take (i := 18) (oi := { dst := some 135, op := Op.pick (Operand.tmp 125) (Operand.tmp 134) (Operand.const (Value.bool false)), type := 4, pos := "law.go:38", after := #[{ on := 8, ground := Ground.data }, { on := 17, ground := Ground.data }], guard := none }) (v := ?_) rfl (by kernel_rfl) (by kernel_rfl) (by kernel_rfl) (fun _ _ _ h => h) (Or.inl ⟨by rfl, ?_⟩) hHeld ?_
            rotate_left 1
            · intro W hSw
              (try dsimp only at hSw)
              go_simp
              try with_reducible rfl
            try simp only [Act.put, List.setIfInBounds_toArray, List.set_cons_zero, List.set_cons_succ]
            refine wpAnyH_take (i := 19) (oi := { dst := some 136, op := Op.move (Operand.tmp 135), type := 4, pos := "law.go:38", after := #[{ on := 18, ground := Ground.data }, { on := 17, ground := Ground.chain }], guard := none }) (v := ?_) rfl (by kernel_rfl) (by kernel_rfl) (by kernel_rfl) (fun _ _ _ h => h) (Or.inl ⟨by rfl, ?_⟩) hHeld ?_
            rotate_left 1
            · intro W hSw
              (try dsimp only at hSw)
              go_simp
              try with_reducible rfl
            try simp only [Act.put, List.setIfInBounds_toArray, List.set_cons_zero, List.set_cons_succ]
            refine wpAnyH_take (i := 20) (oi := { dst := some 137, op := Op.load 26 (Operand.tmp 17), type := 26, pos := "law.go:38", after := #[{ on := 19, ground := Ground.guard }], guard := some (19, true) }) (v := ?_) rfl (by kernel_rfl) (by kernel_rfl) (by kernel_rfl) (fun _ _ _ h => h) (Or.inl ⟨by rfl, ?_⟩) hHeld ?_
            rotate_left 1
            · intro W hSw
              (try dsimp only at hSw)
              go_simp
              try with_reducible rfl
            try simp only [Act.put, List.setIfInBounds_toArray, List.set_cons_zero, List.set_cons_succ]
            refine wpAnyH_take (i := 21) (oi := { dst := some 138, op := Op.load 26 (Operand.tmp 8), type := 26, pos := "law.go:38", after := #[{ on := 19, ground := Ground.guard }], guard := some (19, true) }) (v := ?_) rfl (by kernel_rfl) (by kernel_rfl) (by kernel_rfl) (fun _ _ _ h => h) (Or.inl ⟨by rfl, ?_⟩) hHeld ?_
            rotate_left 1
            · intro W hSw
              (try dsimp only at hSw)
              go_simp
              try with_reducible rfl
            try simp only [Act.put, List.setIfInBounds_toArray, List.set_cons_zero, List.set_cons_succ]
            refine wpAnyH_ready (rs := [22]) (by kernel_rfl) (by simp) ?_
            refine AllReadyH.cons (o := { dst := some 139, op := Op.call { callee := Callee.value (Operand.func 12), args := #[Operand.tmp 137, Operand.tmp 138], argTypes := #[26, 26] }, type := 4, pos := "law.go:38", after := #[{ on := 20, ground := Ground.data }, { on := 21, ground := Ground.data }, { on := 19, ground := Ground.chain }, { on := 19, ground := Ground.guard }], guard := some (19, true) }) rfl (fun K7 hK7 => ?_) ?_
            · go_simp
              refine (HS2.out _ _ _ HD5.out).mono ?_
              rintro e V ⟨rfl, hb⟩
              have HP5 := Lib.hid (HP5.out.keep hb)
              have HQ5 := Lib.hid (HQ5.out.keep hb)
              have HD5 := Lib.hid (HD5.out.keep hb)
              clear hb
              obtain ⟨U, rfl⟩ : ∃ Z, Z = V := ⟨_, rfl⟩
              try dsimp only
              refine hK7.out _ _ (⟨HP5.out.cells, HQ5.out.cells, HD5.out.own.cells, HD5.out.A.cells⟩) (fun hHeld => ?_)
              clear hK7 K7
              try simp only [Act.put, List.setIfInBounds_toArray, List.set_cons_zero, List.set_cons_succ]
              refine wpAnyH_take (i := 23) (oi := { dst := some 140, op := Op.pick (Operand.tmp 136) (Operand.tmp 139) (Operand.const (Value.bool false)), type := 4, pos := "law.go:38", after := #[{ on := 19, ground := Ground.data }, { on := 22, ground := Ground.data }], guard := none }) (v := ?_) rfl (by kernel_rfl) (by kernel_rfl) (by kernel_rfl) (fun _ _ _ h => h) (Or.inl ⟨by rfl, ?_⟩) hHeld ?_
              rotate_left 1
              · intro W hSw
                (try dsimp only at hSw)
                go_simp
                try with_reducible rfl
              try simp only [Act.put, List.setIfInBounds_toArray, List.set_cons_zero, List.set_cons_succ]
              refine wpAnyH_take (i := 24) (oi := { dst := some 141, op := Op.move (Operand.tmp 140), type := 4, pos := "law.go:38", after := #[{ on := 23, ground := Ground.data }, { on := 22, ground := Ground.chain }], guard := none }) (v := ?_) rfl (by kernel_rfl) (by kernel_rfl) (by kernel_rfl) (fun _ _ _ h => h) (Or.inl ⟨by rfl, ?_⟩) hHeld ?_
              rotate_left 1
              · intro W hSw
                (try dsimp only at hSw)
                go_simp
                try with_reducible rfl
              try simp only [Act.put, List.setIfInBounds_toArray, List.set_cons_zero, List.set_cons_succ]
              refine wpAnyH_ready (rs := [25]) (by kernel_rfl) (by simp) ?_
              refine AllReadyH.cons (o := { dst := some 142, op := Op.call { callee := Callee.value (Operand.func 8), args := #[], argTypes := #[] }, type := 4, pos := "law.go:38", after := #[{ on := 24, ground := Ground.chain }, { on := 24, ground := Ground.guard }], guard := some (24, true) }) rfl (fun K7 hK7 => ?_) ?_
              · go_simp
                refine (HAw.out _).mono ?_
                rintro e V ⟨rfl, hb⟩
                have HP5 := Lib.hid (HP5.out.keep hb)
                have HQ5 := Lib.hid (HQ5.out.keep hb)
                have HD5 := Lib.hid (HD5.out.keep hb)
                clear hb
                obtain ⟨U, rfl⟩ : ∃ Z, Z = V := ⟨_, rfl⟩
                try dsimp only
                refine hK7.out _ _ (⟨HP5.out.cells, HQ5.out.cells, HD5.out.own.cells, HD5.out.A.cells⟩) (fun hHeld => ?_)
                clear hK7 K7
                try simp only [Act.put, List.setIfInBounds_toArray, List.set_cons_zero, List.set_cons_succ]
                refine wpAnyH_take (i := 26) (oi := { dst := some 143, op := Op.pick (Operand.tmp 141) (Operand.tmp 142) (Operand.const (Value.bool false)), type := 4, pos := "law.go:38", after := #[{ on := 24, ground := Ground.data }, { on := 25, ground := Ground.data }], guard := none }) (v := ?_) rfl (by kernel_rfl) (by kernel_rfl) (by kernel_rfl) (fun _ _ _ h => h) (Or.inl ⟨by rfl, ?_⟩) hHeld ?_
                rotate_left 1
                · intro W hSw
                  (try dsimp only at hSw)
                  go_simp
                  try with_reducible rfl
                try simp only [Act.put, List.setIfInBounds_toArray, List.set_cons_zero, List.set_cons_succ]
                refine wpAnyH_take (i := 27) (oi := { dst := some 16, op := Op.assign (Operand.tmp 143), type := 4, pos := "law.go:38", after := #[{ on := 26, ground := Ground.data }, { on := 25, ground := Ground.chain }, { on := 0, ground := Ground.phase }, { on := 1, ground := Ground.phase }, { on := 2, ground := Ground.phase }, { on := 3, ground := Ground.phase }, { on := 4, ground := Ground.phase }, { on := 5, ground := Ground.phase }, { on := 6, ground := Ground.phase }, { on := 7, ground := Ground.phase }, { on := 8, ground := Ground.phase }, { on := 9, ground := Ground.phase }, { on := 10, ground := Ground.phase }, { on := 11, ground := Ground.phase }, { on := 12, ground := Ground.phase }, { on := 13, ground := Ground.phase }, { on := 14, ground := Ground.phase }, { on := 15, ground := Ground.phase }, { on := 16, ground := Ground.phase }, { on := 17, ground := Ground.phase }, { on := 18, ground := Ground.phase }, { on := 19, ground := Ground.phase }, { on := 20, ground := Ground.phase }, { on := 21, ground := Ground.phase }, { on := 22, ground := Ground.phase }, { on := 23, ground := Ground.phase }, { on := 24, ground := Ground.phase }, { on := 25, ground := Ground.phase }, { on := 26, ground := Ground.phase }], guard := none }) (v := ?_) rfl (by kernel_rfl) (by kernel_rfl) (by kernel_rfl) (fun _ _ _ h => h) (Or.inl ⟨by rfl, ?_⟩) hHeld ?_
                rotate_left 1
                · intro W hSw
                  (try dsimp only at hSw)
                  go_simp
                  try with_reducible rfl
                try simp only [Act.put, List.setIfInBounds_toArray, List.set_cons_zero, List.set_cons_succ]
                refine wpAnyH_done (by kernel_rfl) ?_ _
                clear hHeld
                go_wp2
                go_ret
                exact ⟨rfl, HD5.out.bel⟩
              exact AllReadyH.nil
            exact AllReadyH.nil
          exact AllReadyH.nil
        exact AllReadyH.nil
      exact AllReadyH.nil
    exact AllReadyH.nil
    --R18E
end Go.Proofs.Ytmdipcemhaomhaa.crush
