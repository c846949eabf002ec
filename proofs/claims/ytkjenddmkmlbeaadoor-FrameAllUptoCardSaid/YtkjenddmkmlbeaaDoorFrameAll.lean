/- The walks of All: the program's and the document's; and of the law's own comparison of texts. -/
import Derived.Test.YtkjenddmkmlbeaaDoorRows
import Derived.Test.YtkjenddmkmlbeaaDoorFrameLawS
import Derived.Test.YtkjenddmkmlbeaaDoorFrameMath2
import Derived.Deep.LoopGhost
namespace Go.Proofs.YtkjenddmkmlbeaaDoor.frame
open Go.RowKit
open Go.Proofs.YtkjenddmkmlbeaaDoor.kit Go.Proofs.YtkjenddmkmlbeaaDoor.own Go.Proofs.YtkjenddmkmlbeaaDoor.fm
set_option linter.unusedVariables false
set_option linter.constructorNameAsVariable false

/-- The text of one frame. -/
def txt1 (k : Nat) (bd : List Nat) : ByteArray := strN [k] ++ strN bd
def allF : Nat → List Nat → List ByteArray × Nat × Int
  | 0, _ => ([], 0, 0)
  | n + 1, l => if l.length < 1 then ([], 0, 0) else
    match openP l with
    | .error e => ([], 0, e)
    | .ok (k, bd, N) => (txt1 k bd :: (allF n (l.drop N)).1, N + (allF n (l.drop N)).2.1, (allF n (l.drop N)).2.2)
def allP (l : List Nat) : List ByteArray × Nat × Int := allF l.length l

/-- What is still to come of l, behind texts ss and t bytes, comes to R. -/
def AllR (R : List ByteArray × Nat × Int) (l : List Nat) (ss : List ByteArray) (t : Nat) : Prop := ∃ n, l.length ≤ n ∧ R = (ss ++ (allF n l).1, t + (allF n l).2.1, (allF n l).2.2)
theorem AllR.start (l : List Nat) : AllR (allP l) l [] 0 := ⟨l.length, Nat.le_refl _, by simp [allP]⟩
theorem AllR.step {R : List ByteArray × Nat × Int} {l : List Nat} {ss : List ByteArray} {t k N : Nat} {bd : List Nat} (h : AllR R l ss t) (h0 : ¬ l.length < 1) (ho : openP l = .ok (k, bd, N)) : AllR R (l.drop N) (ss ++ [txt1 k bd]) (t + N) := by
  obtain ⟨n, hn, hR⟩ := h
  obtain ⟨n, rfl⟩ : ∃ n', n = n' + 1 := ⟨n - 1, by omega⟩
  have h9 := (open_len ho).2.2.1
  refine ⟨n, by rw [List.length_drop]; omega, ?_⟩
  rw [hR, allF, if_neg h0, ho]
  simp only [List.append_assoc, List.cons_append, List.nil_append]
  rw [Nat.add_assoc]
theorem AllR.err {R : List ByteArray × Nat × Int} {l : List Nat} {ss : List ByteArray} {t : Nat} {e : Int} (h : AllR R l ss t) (h0 : ¬ l.length < 1) (ho : openP l = .error e) : R = (ss, t, e) := by
  obtain ⟨n, hn, hR⟩ := h
  obtain ⟨n, rfl⟩ : ∃ n', n = n' + 1 := ⟨n - 1, by omega⟩
  rw [hR, allF, if_neg h0, ho]; simp
theorem AllR.fin {R : List ByteArray × Nat × Int} {l : List Nat} {ss : List ByteArray} {t : Nat} (h : AllR R l ss t) (h0 : l.length < 1) : R = (ss, t, 0) := by
  obtain ⟨n, hn, hR⟩ := h
  cases n with
  | zero => rw [hR, allF]; simp
  | succ n => rw [hR, allF, if_pos h0]; simp

/-- A slice of texts of the call's own. -/
def OwnT (w : World) (B : Nat) (v : Value) (ss : List ByteArray) : Prop := w.ownsRow B 9 1 v ss.length (ss.map Value.string)
theorem infoStr : (Tryd.prog.info? 9).map (fun i => (i.zero, i.size, i.bytes)) = some (some (.string .empty), 1, 16) := by kernel_rfl
theorem OwnT.nil (w : World) (B : Nat) : OwnT w B (.slice none 0 0) [] := World.ownsRow_nil _ _ _ _
theorem OwnT.below {w w' : World} {B : Nat} {v : Value} {ss : List ByteArray} (h : OwnT w B v ss) (hb : Below w.heap.size w w') : OwnT w' B v ss := by
  obtain ⟨h1, h2⟩ := id h
  refine ⟨h1, ?_⟩
  rcases h2 with ⟨rfl, h0⟩ | ⟨g, cap, cur, rfl, hB, hg, hr⟩
  · exact .inl ⟨rfl, h0⟩
  · exact .inr ⟨g, cap, cur, rfl, hB, (hb.block g (Array.getElem?_eq_some_iff.1 hg).1).trans hg, hr⟩
theorem OwnT.base {w : World} {B B' : Nat} {v : Value} {ss : List ByteArray} (h : OwnT w B v ss) (hB : B' ≤ B) : OwnT w B' v ss := by
  obtain ⟨h1, h2⟩ := id h
  refine ⟨h1, ?_⟩
  rcases h2 with ⟨rfl, h0⟩ | ⟨g, cap, cur, rfl, hB2, hr⟩
  · exact .inl ⟨rfl, h0⟩
  · exact .inr ⟨g, cap, cur, rfl, Nat.le_trans hB hB2, hr⟩
/-- It stays where one variable, of another type, turns. -/
theorem OwnT.turn {w w' : World} {B rb : Nat} {v u : Value} {t : Nat} {ss : List ByteArray} (h : OwnT w B v ss) (hr : RdAt w rb u t) (hg : w.grownBy w' (some rb)) : OwnT w' B v ss := by
  obtain ⟨h1, h2⟩ := id h
  refine ⟨h1, ?_⟩
  rcases h2 with ⟨rfl, h0⟩ | ⟨g, cap, cur, rfl, hB, hgc, hr'⟩
  · exact .inl ⟨rfl, h0⟩
  · refine .inr ⟨g, cap, cur, rfl, hB, ?_, hr'⟩
    have hne : g ≠ rb := by
      intro e
      subst e
      unfold RdAt at hr
      rw [hr] at hgc
      injection hgc with hgc
      injection hgc with _ h3 _
      exact absurd h3 (by decide)
    exact (hg.block g (Array.getElem?_eq_some_iff.1 hgc).1 (by simpa using hne)).trans hgc

/-- 'l = append(l, s)' of one text. -/
theorem app1T {P : Program} {wr : World} {ops : Array Oper} {rest : List Oper} {o : Oper} {a : Act} {Q : Exit → Act → World → Prop} (hgd : o.guard = none) (s x : Operand) (t : TypeId)
    (ho : o.op = .call { callee := .builtin .append, args := #[s, x], argTypes := #[t, t] })
    (B : Nat) (ht : P.underlying t = some (.slice 9)) (hi : (P.info? 9).map (fun i => (i.zero, i.size, i.bytes)) = some (some (.string .empty), 1, 16))
    (v : Value) (ss : List ByteArray) (hs : a.eval s = v) (hown : OwnT wr B v ss) (c : ByteArray) (n : Nat) (hn : n = wr.heap.size) (hx : a.eval x = .slice (some ⟨n, 0, none⟩) 1 1)
    (h63 : ss.length + 1 ≤ maxLen) (hb : (ss.length + 1) * 16 ≤ 140737488355328) (hB : B ≤ wr.heap.size)
    (h : ∀ v' w', OwnT w' B v' (ss ++ [c]) → Below B wr w' → wpList P ops Q rest (a.put o.dst v') w') : wpList P ops Q (o :: rest) a (wr.alloc (.cells #[.string c] 9)) := by
  subst hn
  obtain ⟨i0, hi, hz0, hz1, hz2⟩ := info_parts hi
  refine wpList_append_own _ hgd s x t ho B 9 i0 (.string .empty) 1 16 ht hi hz0 hz1 hz2 rfl (by decide) v ss.length (ss.map Value.string) hs (hown.alloc _) ⟨wr.heap.size, 0, none⟩ 1 1 [.string c] hx rfl ?_ ?_ h63 hb (by simp; omega) ?_
  · intro j u hj
    match j, hj with
    | 0, hj => simp at hj; subst hj; rw [add_plain', World.cell?_alloc_at _ _ _ _ rfl]; rfl
  · intro u hu; simp at hu; subst hu; rfl
  · intro v' w' hown' hg _
    have hblk : ∀ g, v.ownBlock = some g → B ≤ g := fun g hg => (World.ownsRow.lt hown g hg).1
    refine h v' w' ?_ (((Below.refl _ _).alloc hB _).grown hg (by simp; omega) hblk)
    unfold OwnT
    simpa using hown'

/-- What All says. -/
def AllP (w : World) (l : List Nat) (e : Ending) (w' : World) : Prop :=
  (∃ v, e = .returned (.tuple #[v, .int .i64 (allP l).2.1, .int .i64 (allP l).2.2]) ∧ OwnT w' w.heap.size v (allP l).1) ∧ Below w.heap.size w w'

theorem rd_below {B : Nat} {w w' : World} {rb : Nat} {l : List Nat} {t : Nat} (h : Rd B w rb l t) (hrb : rb < B ∨ rb = B) (hb : Below (B + 1) w w') : Rd B w' rb l t := by
  obtain ⟨v, hr, hv, hbl⟩ := h
  have hrb' : rb < B + 1 := by omega
  refine ⟨v, ?_, ⟨?_, hv.2⟩, hbl⟩
  · unfold RdAt at hr ⊢
    rw [hb.block rb hrb']; exact hr
  · obtain ⟨hl, a, cap, rfl, hc⟩ := hv.1
    refine ⟨hl, a, cap, rfl, fun h0 => ?_⟩
    obtain ⟨b, off, rfl, hcell⟩ := hc h0
    have := hbl b off _ _ rfl h0
    exact ⟨b, off, rfl, fun j hj => (hb.cell (p := ⟨b, off + j, none⟩) (by show b < B + 1; omega)).trans (hcell j hj)⟩

set_option maxHeartbeats 8000000 in
set_option maxRecDepth 100000 in
theorem All_any (v : Value) (l : List Nat) (w : World) (hv : Bts w v l) (hn : Nib w) (hlen : l.length ≤ 1048576) :
    Calls Tryd.prog 14 #[v] w (AllP w l) := by
  obtain ⟨hl, a, cap, rfl, hc⟩ := id hv.1
  have HN := Lib.hid hn
  have HB1 := Lib.hid ((Below.refl w.heap.size w).alloc (Nat.le_refl _) (.cells #[.slice a l.length cap, .int .i64 0] 52))
  have HRd : Hid (Rd w.heap.size (w.alloc (.cells #[.slice a l.length cap, .int .i64 0] 52)) w.heap.size l 0) := by
    refine ⟨_, ?_, hv.keep HB1.out, hv.blk⟩
    unfold RdAt
    rw [alloc_at]; rfl
  have HLn := Lib.hid hlen
  have HSt := Lib.hid (AllR.start l)
  have hsz : (w.alloc (.cells #[.slice a l.length cap, .int .i64 0] 52)).heap.size = w.heap.size + 1 := World.size_alloc _ _
  have HSz := Lib.hid hsz
  clear hc hv hn hlen hsz
  go_enter Tryd.func14, Tryd.ntmps14
  go_upto_region 3 with fail
  generalize hW1 : w.alloc (.cells #[.slice a l.length cap, .int .i64 0] 52) = W1 at HB1 HRd HSz ⊢
  clear hW1
  go_loopg [5] l.length (fun n vl wr => ∃ (r : List Nat) (ss : List ByteArray) (t : Nat), n = r.length ∧ AllR (allP l) r ss t ∧ r.length + t ≤ l.length ∧ ss.length ≤ t ∧ Rd w.heap.size wr w.heap.size r t ∧ OwnT wr (w.heap.size + 1) vl ss ∧ Below w.heap.size w wr ∧ w.heap.size + 1 ≤ wr.heap.size)
  case atStart => exact ⟨l, [], 0, rfl, HSt.out, by omega, by simp, HRd.out, OwnT.nil _ _, HB1.out, by rw [HSz.out]; exact Nat.le_refl _⟩
  case round =>
    obtain ⟨r, ss, t, rfl, hall, hrl, hst, hrd, ho, hb, hws⟩ := hrel
    have HAll := Lib.hid hall; have HRd' := Lib.hid hrd; have HO := Lib.hid ho; have HB := Lib.hid hb; have HWs := Lib.hid hws
    have HNw := Lib.hid (HN.out.keep hb)
    have HRl := Lib.hid hrl; have HStt := Lib.hid hst
    obtain ⟨u, hr, hu, _⟩ := hrd
    obtain ⟨_, ua, ucap, rfl, _⟩ := hu.1
    have c0 := hr.c0; have c1 := hr.c1
    clear hall ho hb hws hr hu hrl hst HRd HSt HB1 HSz
    by_cases h0 : r.length < 1
    · have HF := Lib.hid (HAll.out.fin h0)
      have hno := has_no ua r.length ucap 1 wr (by omega)
      go_wp2_with (go_at_call 23; refine hno.mono ?_; rintro e w' ⟨rfl, rfl⟩)
      go_quiet (fail)
      go_wp2
      go_ret3
      unfold AllP
      rw [HF.out]
      exact ⟨⟨_, rfl, HO.out.base (Nat.le_succ _)⟩, HB.out.drewN' _⟩
    · have hyes := has_yes ua r.length ucap 1 wr (by omega)
      go_wp2_with (go_at_call 23; refine hyes.mono ?_; rintro e w' ⟨rfl, rfl⟩)
      clear hyes
      refine (frame_any w.heap.size w.heap.size r t wr HRd'.out HNw.out (by have := HRl.out; have := HLn.out; omega)).mono ?_
      rintro e W2 h
      unfold FrP at h
      cases hop : openP r with
      | error er =>
        have HE := Lib.hid (HAll.out.err h0 hop)
        rw [hop] at h
        simp only at h
        obtain ⟨rfl, nq, rfl⟩ := h
        have hne : ((er : Int) != 0) = true := by rw [bne_iff_ne]; exact open_err_ne hop
        clear hop
        go_wp2
        go_quiet (fail)
        go_wp2
        go_ret3
        unfold AllP
        rw [HE.out]
        exact ⟨⟨_, rfl, HO.out.base (Nat.le_succ _)⟩, (HB.out.drewN' _).drewN' _⟩
      | ok x =>
        obtain ⟨kd, bd, N⟩ := x
        have HNx := Lib.hid (HAll.out.step h0 hop)
        obtain ⟨hbl, hNr, hN9, -⟩ := open_len hop
        rw [hop] at h
        simp only at h
        obtain ⟨⟨a', c', rfl, hbd⟩, hrd2, hg⟩ := h
        have hr9 := HRd'.out
        obtain ⟨_, hrAt, _, _⟩ := hr9
        have HO2 := Lib.hid (OwnT.turn HO.out hrAt hg)
        have HB2 : Hid (Below w.heap.size w W2) := ⟨hg.os.trans HB.out.os, hg.tape.trans HB.out.tape, hg.output.trans HB.out.output, Nat.le_trans HB.out.size hg.size, fun k hk => (hg.block k (Nat.lt_of_lt_of_le hk HB.out.size) (by simp; omega)).trans (HB.out.block k hk)⟩
        have HW2 := Lib.hid (Nat.le_trans HWs.out hg.size)
        have HRd2 := Lib.hid hrd2; have HBd := Lib.hid hbd
        have HBA := Lib.hid ((Below.refl W2.heap.size W2).alloc (Nat.le_refl _) (.cells #[.int .u8 (kd : Int)] 5))
        have hk1 : Bts (W2.alloc (.cells #[.int .u8 (kd : Int)] 5)) (.slice (some ⟨W2.heap.size, 0, none⟩) 1 1) [kd] := by
          have h8 : kd < 256 := (openP_lt (fun b hb => (HRd'.out.choose_spec.2.1.2.1 b hb)) hop).1
          exact bts_new W2 [kd] (by simpa using h8) (by simp) _ rfl _
        have hcv1 := convN hk1
        have hcv2 : (convert 50 9 (.slice (some a') bd.length c')).run Tryd.prog (W2.alloc (.cells #[.int .u8 (kd : Int)] 5)) = .ok (.string (strN bd)) (W2.alloc (.cells #[.int .u8 (kd : Int)] 5)) :=
          conv_bytes (P := Tryd.prog) 50 5 9 Tryd.underlying50 Tryd.underlying5 Tryd.underlying9 (HBd.out.keep HBA.out).1
        have HX := Lib.hid (show strN [kd] ++ strN bd = txt1 kd bd from rfl)
        have hs1 : (strN [kd]).size = 1 := by unfold strN; rw [strOfNums_size]; rfl
        have hs2 : (strN bd).size ≤ 1048575 := by unfold strN; rw [strOfNums_size]; simpa using hbl
        clear hrAt hg hrd2 hbd hk1 hop HRd' HO HB HNw c0 c1
        generalize txt1 kd bd = tx at HX HNx
        generalize strN [kd] = sa at hcv1 HX hs1
        generalize strN bd = sb at hcv2 HX hs2
        have HO3 := Lib.hid (HO2.out.below HBA.out)
        have HSzA := Lib.hid (World.size_alloc W2 (.cells #[.int .u8 (kd : Int)] 5))
        go_wp2_with (at_builtin; refine app1T rfl (.tmp 26) (.tmp 33) 36 rfl (w.heap.size + 1) Tryd.underlying36 infoStr _ ss rfl HO3.out (sa ++ sb) _ (by rw [HSzA.out]) rfl ?_ ?_ ?_ ?_)
        case refine_1 => have := HStt.out; have := HRl.out; have := HLn.out; unfold maxLen; omega
        case refine_2 => have := HStt.out; have := HRl.out; have := HLn.out; omega
        case refine_3 => have := HW2.out; rw [HSzA.out]; omega
        case refine_4 =>
          intro v6 w6 ho6 hb6
          rw [HX.out] at ho6
          have HO6 := Lib.hid ho6
          have hb26 : Below (w.heap.size + 1) W2 w6 := (HBA.out.mono HW2.out).trans hb6
          have HRd6 := Lib.hid (rd_below HRd2.out (.inr rfl) hb26)
          have HB6 := Lib.hid (HB2.out.trans (hb26.mono (Nat.le_succ _)))
          have HW6 := Lib.hid (Nat.le_trans HW2.out hb26.size)
          clear ho6 hb6 hb26 hcv1 hcv2 hs1 hs2 HO2 HO3 HB2 HRd2 HBd
          go_wp2
          go_roundg (r.drop N).length
          case rel => exact ⟨r.drop N, ss ++ [tx], t + N, rfl, HNx.out, by have := HRl.out; rw [List.length_drop]; omega, by have := HStt.out; simp; omega, HRd6.out, HO6.out, HB6.out, HW6.out⟩
          case measure => rw [List.length_drop]; omega

set_option maxHeartbeats 8000000 in
set_option maxRecDepth 100000 in
theorem rAll_any (v : Value) (l : List Nat) (w : World) (hv : Bts w v l) (hlen : l.length ≤ 1048576) :
    Calls Tryd.prog 15 #[v] w (AllP w l) := by
  obtain ⟨hl, a, cap, rfl, hc⟩ := id hv.1
  have hcap := hv.2.2.2 _ _ _ rfl
  have HV := Lib.hid hv; have HC := Lib.hid hc
  have HSt := Lib.hid (AllR.start l)
  obtain ⟨L, hL⟩ : ∃ L, l.length = L := ⟨_, rfl⟩
  have HL := Lib.hid hL
  rw [hL] at hl hlen hcap ⊢
  clear hc hv hL
  go_enter Tryd.func15, Tryd.ntmps15
  go_wp2
  go_loopw [5, 6] (fun vl vi wr => ∃ (ss : List ByteArray) (t : Nat), vi = .int .i64 t ∧ AllR (allP l) (l.drop t) ss t ∧ t ≤ L ∧ ss.length ≤ t ∧ OwnT wr w.heap.size vl ss ∧ Below w.heap.size w wr) (fun _ i _ => L - (intOf i).toNat)
  case atStart => exact ⟨[], 0, rfl, HSt.out, by omega, by simp, OwnT.nil _ _, Below.refl _ _⟩
  case round =>
    obtain ⟨ss, t, rfl, hall, htL, hst, ho, hb⟩ := hrel
    have HAll := Lib.hid hall; have HO := Lib.hid ho; have HB := Lib.hid hb; have HStt := Lib.hid hst
    clear hall ho hb hst HSt
    by_cases h0 : t < L
    · have h0I : (t : Int) < L := by omega
      have ht0 : (0 : Int) ≤ t := by omega
      have hct : (cap : Int) ≠ t := by omega
      have htc : (t : Int) ≤ cap := by omega
      obtain ⟨b, off, rfl, hcell⟩ := HC.out (by rw [HL.out]; omega)
      have HLd : Hid ((l.drop t).length = L - t) := by unfold Hid; rw [List.length_drop, HL.out]
      have HSub : Hid (Bts wr (.slice (some ⟨b, off + t, none⟩) (L - t) (cap - t)) (l.drop t)) := by
        have h1 := (HV.out.keep HB.out).1
        have h2 := sub_read (lo := t) (hi := l.length) (a' := some ⟨b, off + t, none⟩) (cap' := cap - t) h1 (by rw [HL.out]; omega) (Nat.le_refl _) (fun _ b off e => by cases e; rfl)
        rw [List.take_length, HL.out] at h2
        exact ⟨h2, fun n hn => HV.out.2.1 n (List.mem_of_mem_drop hn), fun n c e => (by cases e), fun a n c e => (by cases e; omega)⟩
      clear hcell
      go_wp2_with fail
      refine (rOpen_any _ (l.drop t) wr HSub.out (by rw [HLd.out]; omega)).mono ?_
      rintro e W2 ⟨hb2, h⟩
      have hr1 : ¬ (l.drop t).length < 1 := by rw [HLd.out]; omega
      have HB2 := Lib.hid (HB.out.trans (hb2.mono HB.out.size))
      have HO2 := Lib.hid (HO.out.below hb2)
      cases hop : openP (l.drop t) with
      | error er =>
        have HE := Lib.hid (HAll.out.err hr1 hop)
        rw [hop] at h
        subst h
        have hne : ((er : Int) != 0) = true := by rw [bne_iff_ne]; exact open_err_ne hop
        clear hop hb2 hr1
        go_wp2
        go_ret3
        unfold AllP
        rw [HE.out]
        exact ⟨⟨_, rfl, HO2.out⟩, HB2.out⟩
      | ok x =>
        obtain ⟨kd, bd, N⟩ := x
        have HNx := Lib.hid (HAll.out.step hr1 hop)
        obtain ⟨hbl, hNr, hN9, -⟩ := open_len hop
        rw [HLd.out] at hNr
        rw [hop] at h
        obtain ⟨v5, rfl, ho5⟩ := h
        have h8 := openP_lt (fun b hb => HV.out.2.1 b (List.mem_of_mem_drop hb)) hop
        have HBA := Lib.hid ((Below.refl W2.heap.size W2).alloc (Nat.le_refl _) (.cells #[.int .u8 (kd : Int)] 5))
        have hk1 : Bts (W2.alloc (.cells #[.int .u8 (kd : Int)] 5)) (.slice (some ⟨W2.heap.size, 0, none⟩) 1 1) [kd] := bts_new W2 [kd] (by simpa using h8.1) (by simp) _ rfl _
        have hcv1 := convN hk1
        have hcv2 := convN ((bts_own ho5 h8.2).keep HBA.out)
        have HX := Lib.hid (show strN [kd] ++ strN bd = txt1 kd bd from rfl)
        have hs1 : (strN [kd]).size = 1 := by unfold strN; rw [strOfNums_size]; rfl
        have hs2 : (strN bd).size ≤ 1048575 := by unfold strN; rw [strOfNums_size]; simpa using hbl
        have HO3 := Lib.hid (HO2.out.below HBA.out)
        have HSzA := Lib.hid (World.size_alloc W2 (.cells #[.int .u8 (kd : Int)] 5))
        rw [List.drop_drop] at HNx
        clear hb2 hk1 hop HO HB h8 ho5 hr1
        generalize txt1 kd bd = tx at HX HNx
        generalize strN [kd] = sa at hcv1 HX hs1
        generalize strN bd = sb at hcv2 HX hs2
        go_wp2_with (at_builtin; refine app1T rfl (.tmp 29) (.tmp 36) 36 rfl w.heap.size Tryd.underlying36 infoStr _ ss rfl HO3.out (sa ++ sb) _ (by rw [HSzA.out]) rfl ?_ ?_ ?_ ?_)
        case refine_1 => have := HStt.out; unfold maxLen; omega
        case refine_2 => have := HStt.out; omega
        case refine_3 => have := HB2.out.size; rw [HSzA.out]; omega
        case refine_4 =>
          intro v6 w6 ho6 hb6
          rw [HX.out] at ho6
          have HO6 := Lib.hid ho6
          have HB6 := Lib.hid (HB2.out.trans ((HBA.out.mono HB2.out.size).trans hb6))
          clear ho6 hb6 hcv1 hcv2 hs1 hs2 HO2 HO3 HB2
          have hsum : (t : Int) + N = ((t + N : Nat) : Int) := by omega
          have HSum := Lib.hid hsum
          clear hsum
          have hNI : (N : Int) ≤ L := by omega
          go_wp2
          go_roundw
          case rel => exact ⟨ss ++ [tx], t + N, by first | rfl | (rw [HSum.out]) | go_num, HNx.out, by omega, by have := HStt.out; simp; omega, HO6.out, HB6.out⟩
          case measure => simp [intOf]; omega
    · have HF := Lib.hid (HAll.out.fin (by rw [List.length_drop, HL.out]; omega))
      go_wp2
      go_ret3
      unfold AllP
      rw [HF.out]
      exact ⟨⟨_, rfl, HO.out⟩, HB.out⟩

set_option maxHeartbeats 4000000 in
set_option maxRecDepth 100000 in
theorem texts_any (va vb : Value) (Ba Bb : Nat) (ss : List ByteArray) (w : World) (ha : OwnT w Ba va ss) (hb : OwnT w Bb vb ss) :
    Calls Tryd.prog 16 #[va, vb] w fun e w' => e = .returned (.bool true) ∧ Below w.heap.size w w' := by
  have cells : ∀ (B : Nat) (v : Value), OwnT w B v ss → ∃ a cap, v = .slice a ss.length cap ∧ (0 < ss.length → ∃ g, a = some ⟨g, 0, none⟩ ∧ ∀ j, j < ss.length → w.cell? ⟨g, j, none⟩ = some (.string (ss.getD j .empty))) := by
    intro B v h
    rcases h.2 with ⟨rfl, h0⟩ | ⟨g, cap, cur, rfl, hB, hg, hc, hm, hs, ht⟩
    · exact ⟨none, 0, by rw [h0], fun h => by omega⟩
    · refine ⟨some ⟨g, 0, none⟩, cap, rfl, fun _ => ⟨g, rfl, fun j hj => ?_⟩⟩
      have := World.ownsRow.cells h (g := g) rfl j (.string (ss.getD j .empty)) (by simp [List.getD, hj])
      rw [add_plain', Nat.zero_add] at this
      exact this
  obtain ⟨a1, c1, rfl, h1⟩ := cells _ _ ha
  obtain ⟨a2, c2, rfl, h2⟩ := cells _ _ hb
  have hlen : ss.length ≤ 9223372036854775807 := by
    rcases ha.2 with ⟨_, h0⟩ | ⟨g, cap, cur, e, hB, hg, hc, hm, hs, ht⟩
    · omega
    · unfold maxLen at hm; omega
  have H1 := Lib.hid h1; have H2 := Lib.hid h2
  obtain ⟨L, hL⟩ : ∃ L, ss.length = L := ⟨_, rfl⟩
  have HL := Lib.hid hL
  rw [hL] at hlen ⊢
  clear cells h1 h2 ha hb hL
  go_enter Tryd.func16, Tryd.ntmps16
  go_wp2
  go_loopw [13] (fun vi wr => ∃ k n : Nat, k ≤ L ∧ vi = .int .i64 k ∧ wr = w.drewN n) (fun i _ => L - (intOf i).toNat)
  case atStart => exact ⟨0, 0, by omega, rfl, rfl⟩
  case round =>
    obtain ⟨k, n, hk, rfl, rfl⟩ := hrel
    by_cases hlt : k < L
    · obtain ⟨ga, ea, hca⟩ := H1.out (by rw [HL.out]; omega)
      obtain ⟨gb, eb, hcb⟩ := H2.out (by rw [HL.out]; omega)
      subst ea eb
      have k1 := hca k (by rw [HL.out]; exact hlt)
      have k2 := hcb k (by rw [HL.out]; exact hlt)
      generalize ss.getD k .empty = st at k1 k2
      have hltI : (k : Int) < L := by omega
      have hk0 : (0 : Int) ≤ k := by omega
      clear hca hcb
      go_wp2_with fail
      go_quiet (fail)
      go_wp2
      go_roundw
      case rel => exact ⟨k + 1, _, by omega, by go_num, rfl⟩
      case measure => simp [intOf]; omega
    · go_wp2
      go_ret
      exact ⟨rfl, (Below.refl _ _).drewN' _⟩

end Go.Proofs.YtkjenddmkmlbeaaDoor.frame
