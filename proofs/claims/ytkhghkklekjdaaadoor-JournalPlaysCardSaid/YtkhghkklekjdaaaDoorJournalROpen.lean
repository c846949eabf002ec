/- The document's journal is opened. -/
import Derived.Test.YtkhghkklekjdaaaDoorRows
import Derived.Test.YtkhghkklekjdaaaDoorJournalRGet
import Derived.Test.YtkhghkklekjdaaaDoorJournalAppT
import Derived.Test.YtkhghkklekjdaaaDoorJournalZeros
import Derived.StillTailTactics
namespace Go.Proofs.YtkhghkklekjdaaaDoor.journal
open Go.RowKit
open Go.Proofs.YtkhghkklekjdaaaDoor.kit Go.Proofs.YtkhghkklekjdaaaDoor.own Go.Proofs.YtkhghkklekjdaaaDoor.jm Go.Proofs.YtkhghkklekjdaaaDoor.iter
open Go.Proofs.YtkhghkklekjdaaaDoor.sector (Dev RAt rSectors_any rCells strN)
set_option linter.unusedVariables false

/-- A round of the reading. -/
theorem open_round {S : Nat → List Nat} {n at_ was : Nat} (hat : at_ < n) (hl : ∀ i, i < n → (S i).length = 64 ∧ ∀ x ∈ S i, x < 256) {V : List Pc} (hV : V = (List.range n).map fun i => pcOf (S i)) :
    (foundS S n at_ ∧ was < (pcOf (S at_)).num) ↔ WholeAt was (V.drop at_) := by
  have hd : V.drop at_ = pcOf (S at_) :: V.drop (at_ + 1) := by
    rw [List.drop_eq_getElem_cons (by rw [hV]; simpa using hat)]
    congr 1
    simp [hV]
  by_cases h0 : (pcOf (S at_)).num = 0
  · exact ⟨fun h => by omega, fun h => absurd h (not_whole hat hV h0 was)⟩
  · have h1 := (found_whole hat hl hV (by omega)).1
    have h2 : numAt (V.drop at_) = (pcOf (S at_)).num := by rw [hd]; rfl
    rw [whole_last, ← h1, h2]
theorem textS_len {S : Nat → List Nat} {n at_ : Nat} (hl : ∀ i, i < n → (S i).length = 64 ∧ ∀ x ∈ S i, x < 256) (h : foundS S n at_) (hat : at_ < n) : (textS S at_).length = cntS (S at_) ∧ ∀ x ∈ textS S at_, x < 256 := by
  have h2 := h.2.1
  have hnp := need_pos (cntS (S at_))
  refine ⟨?_, fun x hx => ?_⟩
  · unfold textS
    rw [List.length_take, List.length_append, tailS_len _ (fun i hi => (hl _ (by omega)).1), List.length_drop, (hl at_ hat).1]
    have := need_ge (cntS (S at_))
    omega
  · rcases List.mem_append.1 (List.mem_of_mem_take hx) with hx | hx
    · exact (hl at_ hat).2 x (List.mem_of_mem_drop hx)
    · obtain ⟨i, hi, hx⟩ := List.mem_flatMap.1 hx
      have hi := List.mem_range.1 hi
      exact (hl (at_ + 1 + i) (by omega)).2 x (List.mem_of_mem_drop hx)
/-- Where the reading stands. -/
def RL (V : List Pc) (n : Nat) (L : List (List Nat)) (T was at_ : Nat) (ok : Bool) (acc : List (List Nat)) : Prop :=
  at_ ≤ n ∧ was ≤ maxNum ∧ acc.length ≤ at_ ∧ ((ok = true ∧ ∃ rest k, Stands was (V.drop at_) rest k ∧ acc ++ rest = L ∧ at_ + k = T) ∨ (ok = false ∧ acc = L ∧ at_ = T))
theorem RL.done {V : List Pc} {n : Nat} {L : List (List Nat)} {T was : Nat} {ok : Bool} {acc : List (List Nat)} (hV : V.length = n) (h : RL V n L T was n ok acc) : acc = L ∧ n = T := by
  obtain ⟨_, _, _, ⟨_, rest, k, hs, h1, h2⟩ | ⟨_, h1, h2⟩⟩ := h
  · have : V.drop n = [] := List.drop_eq_nil_of_le (by omega)
    rw [this] at hs
    cases hs with
    | stop _ => exact ⟨by simpa using h1, by omega⟩
    | more hw _ => exact hw.elim
  · exact ⟨h1, h2⟩
theorem RL.off {V : List Pc} {n : Nat} {L : List (List Nat)} {T was at_ : Nat} {acc : List (List Nat)} (h : RL V n L T was at_ true acc) (hw : ¬ WholeAt was (V.drop at_)) : RL V n L T was at_ false acc := by
  obtain ⟨a, b, c, ⟨_, rest, k, hs, h1, h2⟩ | ⟨h0, _⟩⟩ := h
  · cases hs with
    | stop _ => exact ⟨a, b, c, .inr ⟨rfl, by simpa using h1, by omega⟩⟩
    | more hw2 _ => exact absurd hw2 hw
  · cases h0
theorem RL.on {V : List Pc} {n : Nat} {L : List (List Nat)} {T was at_ : Nat} {acc : List (List Nat)} (h : RL V n L T was at_ true acc) (hw : WholeAt was (V.drop at_)) (hV : V.length = n) (hnum : numAt (V.drop at_) ≤ maxNum) :
    RL V n L T (numAt (V.drop at_)) (at_ + need (cnt (V.drop at_))) true (acc ++ [textAt (cnt (V.drop at_)) (need (cnt (V.drop at_))) (V.drop at_)]) := by
  obtain ⟨a, b, c, ⟨_, rest, k, hs, h1, h2⟩ | ⟨h0, _⟩⟩ := h
  · have hlen := hw.len
    rw [List.length_drop] at hlen
    have hnp := need_pos (cnt (V.drop at_))
    cases hs with
    | stop hn => exact absurd hw hn
    | @more _ _ l k' _ hs2 =>
      rw [List.drop_drop] at hs2
      refine ⟨by omega, hnum, by rw [List.length_append, List.length_singleton]; omega, .inl ⟨rfl, l, k', hs2, by rw [List.append_assoc]; exact h1, by omega⟩⟩
  · cases h0
def okN (v : Value) : Nat := match v with | .bool true => 1 | _ => 0
def atOf (N : Nat) (W : World) : Nat := match W.cell? ⟨N, 3, none⟩ with | some (.int _ z) => z.toNat | _ => 0
theorem RJ.atOf {w : World} {K r f n a num : Nat} {bad : Bool} (h : RJ w K r f n a num bad) : atOf K w = a := by
  unfold journal.atOf
  rw [h.cells.2.2.2.1]
  simp
theorem RJ.kept {w w' : World} {B K r f n a num : Nat} {bad : Bool} (h : RJ w K r f n a num bad) (hk : Kept B 9 w w') : RJ w' K r f n a num bad := hk.box (by decide) h
theorem RJ.setAt {w : World} {K r f n a num : Nat} {bad : Bool} (h : RJ w K r f n a num bad) (a' : Nat) : RJ (w.setCell ⟨K, 3, none⟩ (.int .i64 (a' : Int))) K r f n a' num bad := by
  unfold RJ at h ⊢
  simpa using heap_setCell_same w K 3 _ _ (.int .i64 (a' : Int)) h
theorem RJ.setNum {w : World} {K r f n a num : Nat} {bad : Bool} (h : RJ w K r f n a num bad) (x : Nat) : RJ (w.setCell ⟨K, 4, none⟩ (.int .i64 (x : Int))) K r f n a x bad := by
  unfold RJ at h ⊢
  simpa using heap_setCell_same w K 4 _ _ (.int .i64 (x : Int)) h
theorem RJ.setBad {w : World} {K r f n a num : Nat} {bad : Bool} (h : RJ w K r f n a num bad) (x : Bool) : RJ (w.setCell ⟨K, 5, none⟩ (.bool x)) K r f n a num x := by
  unfold RJ at h ⊢
  simpa using heap_setCell_same w K 5 _ _ (.bool x) h
/-- A row of texts lies elsewhere than the journal's variable. -/
theorem OwnT.setRJ {w : World} {B K r f n a num j : Nat} {bad : Bool} {v x : Value} {ss : List ByteArray} (ho : OwnT w B v ss) (h : RJ w K r f n a num bad) : OwnT (w.setCell ⟨K, j, none⟩ x) B v ss := by
  refine ho.stays fun g hg => heap_setCell_other w ⟨K, j, none⟩ g x (fun e => ?_)
  obtain ⟨cur, hc⟩ := sector.own_type ho hg
  have h' : w.heap[K]? = _ := h
  rw [show g = K from e, h'] at hc
  cases hc
theorem gmax_take {V : List Pc} {i : Nat} {p : Pc} (h : V[i]? = some p) : gmax (V.take (i + 1)) = max (gmax (V.take i)) p.num := by
  rw [List.take_add_one, h]
  exact gmax_snoc _ _

set_option maxHeartbeats 8000000 in
set_option maxRecDepth 100000 in
theorem rOpen_ok (w : World) (Y : Nat → Prop) (r : Nat) (m : Dev) (f n first : Nat) (hr : RAt w Y r m) (hf : f + n ≤ m.n) (hn : 1 ≤ n) (h1 : 1 ≤ first ∧ first ≤ maxNum) (hp : m.power = true) :
    Calls Tryd.prog 12 #[.pointer (some ⟨r, 0, none⟩), .int .i64 (f : Int), .int .i64 (n : Int), .int .i64 (first : Int)] w fun e w' =>
      ∃ K v, e = .returned (.tuple #[.pointer (some ⟨K, 0, none⟩), v, .int .i64 0]) ∧ RJ w' K r f n (standF first (pcsOf m f n)).2 (max (gmax (pcsOf m f n) + 1) first) false ∧ w.heap.size ≤ K ∧
        OwnT w' w.heap.size v ((standF first (pcsOf m f n)).1.map strN) ∧ Below w.heap.size w w' := by
  have HSc := Lib.hid (rSectors_any w Y r m hr)
  have hmn := hr.1.n
  have hVok := pcsOf_ok hr.1 f n hf
  have hSall := rowS_ok hr.1 hf
  have hst := stands_of first (pcsOf m f n) hVok
  have hVl := pcsOf_len m f n
  have hVS := rowS_pcs m f n
  have HR := Lib.hid hr; have HF := Lib.hid hf; have HMn := Lib.hid hmn; have HP := Lib.hid hp; have HSa := Lib.hid hSall; have H1 := Lib.hid h1; have HNn := Lib.hid hn
  obtain ⟨ho, vd, vc, pk, hl⟩ := hr
  have c0 := hl.cell 0; have c3 := hl.cell 3
  simp [rCells, hp] at c0 c3
  obtain ⟨V, hV⟩ : ∃ V, pcsOf m f n = V := ⟨_, rfl⟩
  obtain ⟨⟨L, T⟩, hLT⟩ : ∃ LT, standF first V = LT := ⟨_, rfl⟩
  rw [hV] at hVok hst hVl hVS ⊢
  rw [hLT] at hst ⊢
  have HVok := Lib.hid hVok; have HVl := Lib.hid hVl; have HVS := Lib.hid hVS
  have HRL := Lib.hid (show RL V n L T (first - 1) 0 true [] from ⟨Nat.zero_le _, by have := h1.2; omega, Nat.le_refl _, .inl ⟨rfl, L, T, hst, rfl, by simp⟩⟩)
  have g1 : ¬ (f : Int) < 0 := by omega
  have g2 : ¬ (n : Int) < 1 := by omega
  obtain ⟨mi, hmi⟩ : ∃ mi, (m.n : Int) = mi := ⟨_, rfl⟩
  rw [hmi] at HSc
  have g6 : True → decide ((4611686018427387904 : Int) < (first : Int)) = false := fun _ => by rw [decide_eq_false_iff_not]; unfold maxNum at h1; omega
  have g3' : True → decide (mi < (f : Int)) = false := fun _ => by rw [decide_eq_false_iff_not]; omega
  have g4' : True → decide (mi - (f : Int) < (n : Int)) = false := fun _ => by rw [decide_eq_false_iff_not]; omega
  have g5' : True → decide ((first : Int) < 1) = false := fun _ => by rw [decide_eq_false_iff_not]; omega
  have e1 : wrap64 ((first : Int) - 1) = ((first - 1 : Nat) : Int) := by unfold maxNum at h1; unfold wrap64; omega
  have e2 : True → wrap64 (mi - (f : Int)) = mi - (f : Int) := fun _ => by unfold wrap64; omega
  obtain ⟨N, hN⟩ : ∃ N, w.heap.size = N := ⟨_, rfl⟩
  have HNs := Lib.hid hN
  generalize first - 1 = was0 at e1 HRL
  have HE1 := Lib.hid e1
  clear e1
  clear ho hl hmn hVok hSall hst hVl hVS hf hn h1 hp hV hLT hmi
  go_enter Tryd.func12, Tryd.ntmps12
  go_wp2_with fail
  refine HSc.out.mono ?_
  rintro e w' ⟨rfl, rfl⟩
  go_wp2_with fail
  refine HSc.out.mono ?_
  rintro e w' ⟨rfl, rfl⟩
  go_upto_region 8 with fail
  clear g1 g2 g3' g4' g5' g6 e2 c0 c3 HSc
  have hj1 : RJ (w.alloc (.cells #[.pointer (some ⟨r, 0, none⟩), .int .i64 (f : Int), .int .i64 (n : Int), .int .i64 0, .int .i64 (first : Int), .bool false] 81)) N r f n 0 first false := by
    rw [← HNs.out]; exact alloc_at w _
  have HB1 := Lib.hid ((Below.refl w.heap.size w).alloc (Nat.le_refl _) (.cells #[.pointer (some ⟨r, 0, none⟩), .int .i64 (f : Int), .int .i64 (n : Int), .int .i64 0, .int .i64 (first : Int), .bool false] 81))
  have HJ1 := Lib.hid hj1
  clear hj1
  generalize (w.alloc (.cells #[.pointer (some ⟨r, 0, none⟩), .int .i64 (f : Int), .int .i64 (n : Int), .int .i64 0, .int .i64 (first : Int), .bool false] 81)) = W1 at HB1 HJ1 ⊢
  have HO1 := Lib.hid (OwnT.nil W1 w.heap.size)
  have hn4 : (n : Int) ≤ 4096 := by have := HF.out; have := HMn.out; omega
  go_wp2_with fail
  rw [HE1.out]
  generalize wrap64 (mi - (f : Int)) = zq
  go_loopw [12, 13, 14] (fun vl vw vo W => ∃ acc was at_ ok, vw = .int .i64 ((was : Nat) : Int) ∧ vo = .bool ok ∧ OwnT W w.heap.size vl (acc.map strN) ∧ RJ W N r f n at_ first false ∧ Below w.heap.size w W ∧ RL V n L T was at_ ok acc) (fun _ _ vo W => okN vo + (n - atOf N W))
  case atStart => exact ⟨[], was0, 0, true, rfl, rfl, HO1.out, HJ1.out, HB1.out, HRL.out⟩
  case round =>
    obtain ⟨acc, was, at_, ok, rfl, rfl, ho, hj, hb, hrl⟩ := hrel
    have HO := Lib.hid ho; have HJ := Lib.hid hj; have HB := Lib.hid hb; have HRl := Lib.hid hrl
    obtain ⟨k0, k1, k2, k3, k4, k5⟩ := hj.cells
    have hlt0 := hj.lt
    have hat4 := hrl.1
    clear ho hj hb hrl HO1 HJ1 HB1 HRL
    have HBig := Lib.hid (show True from trivial)
    by_cases hgo : ok = true ∧ at_ < n
    · obtain ⟨rfl, hlt⟩ := hgo
      have hltI : (at_ : Int) < (n : Int) := by omega
      have HLt := Lib.hid hlt
      have HRd := Lib.hid (read_any wr Y N r f n at_ first false m HJ.out (HR.out.keep HB.out) HP.out HF.out at_ hlt)
      clear hlt
      go_wp2_with fail
      refine HRd.out.mono ?_
      rintro e w2 ⟨⟨tx, b, rfl, hfound, htx⟩, hb2⟩
      have HB2 := Lib.hid hb2
      have hround := open_round (was := was) HLt.out HSa.out HVS.out
      have HJ2 := Lib.hid (HJ.out.keep hb2)
      have HO2 := Lib.hid (HO.out.below hb2)
      have HBt2 := Lib.hid (HB.out.trans (hb2.mono HB.out.size))
      have HLk : sector.look m (f + at_) = rowS m f at_ := rfl
      have HM := Lib.hid (num_any w2 Y N r f n at_ first false m HJ2.out (HR.out.keep HBt2.out) HP.out HF.out at_ HLt.out)
      rw [HLk] at HM
      obtain ⟨p, hpn⟩ : ∃ p, (pcOf (rowS m f at_)).num = p := ⟨_, rfl⟩
      have hpm : p ≤ maxNum := by
        rw [← hpn]
        exact Pc.Ok.num (HVok.out _ (by rw [HVS.out]; exact List.mem_map_of_mem (List.mem_range.2 HLt.out)))
      have hnA : numAt (V.drop at_) = p := by
        rw [List.drop_eq_getElem_cons (by rw [HVl.out]; exact HLt.out), ← hpn]
        simp [HVS.out, numAt]
      rw [hpn] at HM hround
      have HNA := Lib.hid hnA; have HPm := Lib.hid hpm
      clear hb2 HLk hpn hpm hnA
      cases b with
      | false =>
        have hno : ¬ WholeAt was (V.drop at_) := fun h => by have := hfound.2 (hround.2 h).1; cases this
        have HRl2 := Lib.hid (HRl.out.off hno)
        clear hfound htx hround hno k0 k1 k2 k3 k4 k5 hlt0 HM
        go_wp2_with fail
        go_roundw
        case rel => exact ⟨acc, was, at_, false, rfl, rfl, HO2.out, HJ2.out, HBt2.out, HRl2.out⟩
        case measure =>
          rw [HJ2.out.atOf, HJ.out.atOf]
          simp [okN]
      | true =>
        have hf := hfound.1 rfl
        obtain rfl := htx rfl
        obtain ⟨q0, q1, q2, q3, q4, q5⟩ := HJ2.out.cells
        by_cases hlp : was < p
        case neg =>
          have hno : ¬ WholeAt was (V.drop at_) := fun h => hlp (hround.2 h).2
          have HRl2 := Lib.hid (HRl.out.off hno)
          have hlpI : ¬ (was : Int) < (p : Int) := by omega
          have HNl := Lib.hid hlp
          clear hfound htx hround hno k0 k1 k2 k3 k4 k5 hlt0 hf hlp
          go_wp2_with fail
          refine HM.out.mono ?_
          rintro e w3 ⟨rfl, hb3⟩
          have HJ3 := Lib.hid (HJ2.out.keep hb3)
          have HO3 := Lib.hid (HO2.out.below hb3)
          have HB3 := Lib.hid (HBt2.out.trans (hb3.mono HBt2.out.size))
          clear hb3 q0 q1 q2 q3 q4 q5
          go_wp2_with fail
          go_roundw
          case rel => exact ⟨acc, was, at_, false, rfl, by rw [decide_eq_false HNl.out], HO3.out, HJ3.out, HB3.out, HRl2.out⟩
          case measure =>
            rw [HJ3.out.atOf, HJ.out.atOf, decide_eq_false HNl.out]
            simp [okN]
        have hW := hround.1 ⟨hf, hlp⟩
        have hlpI : (was : Int) < (p : Int) := by omega
        obtain ⟨e3, e4⟩ := (found_whole HLt.out HSa.out HVS.out (by
          have := HNA.out
          rw [List.drop_eq_getElem_cons (by rw [HVl.out]; exact HLt.out)] at this
          simp only [HVS.out, numAt, List.getElem_map, List.getElem_range] at this
          omega)).2 hf
        have hRl2 := HRl.out.on hW HVl.out (by rw [HNA.out]; exact HPm.out)
        rw [HNA.out, ← e4, e3] at hRl2
        have HRl2 := Lib.hid hRl2
        obtain ⟨hlt2, h8t⟩ := textS_len HSa.out hf HLt.out
        have HLt2 := Lib.hid hlt2; have H8t := Lib.hid h8t
        have hcl : cntS (rowS m f at_) ≤ 300000 := by
          have h2 := hf.2.1
          have h3 := need_ge (cntS (rowS m f at_))
          have := HF.out; have := HMn.out
          omega
        have HCl := Lib.hid hcl
        obtain ⟨tx, htx2⟩ : ∃ tx, textS (rowS m f) at_ = tx := ⟨_, rfl⟩
        rw [htx2] at HRl2 HLt2 H8t ⊢
        obtain ⟨C, hC⟩ : ∃ C, cntS (rowS m f at_) = C := ⟨_, rfl⟩
        rw [hC] at HRl2 HLt2 HCl
        obtain ⟨ND, hND⟩ : ∃ k, need C = k := ⟨_, rfl⟩
        rw [hND] at HRl2
        have HND := Lib.hid hND
        clear hfound htx hround hW e3 e4 hRl2 hlt2 h8t hcl htx2 hC hND k0 k1 k2 k3 k4 k5 hlt0 hf hlp
        go_wp2_with fail
        refine HM.out.mono ?_
        rintro e w3 ⟨rfl, hb3⟩
        have HJ3 := Lib.hid (HJ2.out.keep hb3)
        have HO3 := Lib.hid (HO2.out.below hb3)
        have HB3 := Lib.hid (HBt2.out.trans (hb3.mono HBt2.out.size))
        obtain ⟨r0, r1, r2, r3, r4, r5⟩ := HJ3.out.cells
        have HA1 := Lib.hid (show (acc.map strN).length + 1 ≤ maxLen by have h1 := HRl.out.2.2.1; have h2 := HRl.out.1; have := HF.out; have := HMn.out; rw [List.length_map]; unfold maxLen; omega)
        have HA2 := Lib.hid (show ((acc.map strN).length + 1) * 16 ≤ 140737488355328 by have h1 := HRl.out.2.2.1; have h2 := HRl.out.1; have := HF.out; have := HMn.out; rw [List.length_map]; omega)
        have HSz := Lib.hid HB3.out.size
        clear hb3 q0 q1 q2 q3 q4 q5 HM
        go_wp2_with (at_builtin; refine app1T rfl (.tmp 97) (.tmp 99) 30 rfl w.heap.size Tryd.underlying30 infoStr u12 (acc.map strN) rfl HO3.out (strN tx) _ rfl rfl HA1.out HA2.out HSz.out ?_; intro v4 w4 ho4 hk4 hg4; obtain ⟨-, -, -, s3, -, -⟩ := (HJ3.out.kept hk4).cells)
        have HJ4 := Lib.hid (HJ3.out.kept hk4)
        have HB4 := Lib.hid (HB3.out.trans hk4.toBelow)
        have HO4 := Lib.hid (show OwnT w4 w.heap.size v4 ((acc ++ [tx]).map strN) by rw [List.map_append, List.map_singleton]; exact ho4)
        have HM2 := Lib.hid (num_any w4 Y N r f n at_ first false m HJ4.out (HR.out.keep HB4.out) HP.out HF.out at_ HLt.out)
        rw [show (pcOf (sector.look m (f + at_))).num = p by
          have := HNA.out
          rw [List.drop_eq_getElem_cons (by rw [HVl.out]; exact HLt.out)] at this
          simp only [HVS.out, numAt, List.getElem_map, List.getElem_range] at this
          exact this] at HM2
        clear ho4 hk4 hg4 r0 r1 r2 r3 r4 r5 HA1 HA2
        refine HM2.out.mono ?_
        rintro e w5 ⟨rfl, hb5⟩
        have HJ5 := Lib.hid (HJ4.out.keep hb5)
        have HO5 := Lib.hid (HO4.out.below hb5)
        have HB5 := Lib.hid (HB4.out.trans (hb5.mono HB4.out.size))
        clear hb5 s3
        obtain ⟨-, -, -, r3, -, -⟩ := HJ5.out.cells
        have f3 := HJ5.out.free 3
        have hsz : (strN tx).size = C := by rw [strN_size, HLt2.out]
        have HNe : Hid (∀ u, Calls Tryd.prog 29 #[.int .i64 ((C : Nat) : Int)] u fun e w' => e = .returned (.int .i64 (ND : Nat)) ∧ u = w') := Lib.hid fun u => by
          have := rNeed_any (C : Int) u (by omega) (by have := HCl.out; omega)
          rw [Int.toNat_natCast, HND.out] at this
          exact this
        have e7 : wrap64 ((at_ : Int) + (ND : Int)) = ((at_ + ND : Nat) : Int) := by
          have := need_le C; rw [HND.out] at this; have := HCl.out; have := HF.out; have := HMn.out; unfold wrap64; omega
        have HE7 := Lib.hid e7
        clear e7
        have hsz2 := hsz
        clear hsz
        go_upto_region 17 with fail
        go_still_tail 9, (by kernel_rfl)
        still_call ((HNe.out _).mono fun _ _ hh => ⟨hh.1, hh.2.symm⟩)
        repeat still_step
        refine wpStill_nil ?_
        change wpList _ _ _ _ _ w5.drew
        go_wp2_with fail
        rw [HE7.out]
        have HJ6 := Lib.hid (HJ5.out.setAt (at_ + ND))
        have HO6 := Lib.hid (HO5.out.setRJ (j := 3) (x := .int .i64 ((at_ + ND : Nat) : Int)) HJ5.out)
        have HB6 := Lib.hid (HB5.out.setCell (p := ⟨N, 3, none⟩) (by rw [HNs.out]; exact Nat.le_refl _) (.int .i64 ((at_ + ND : Nat) : Int)))
        have HN1 := Lib.hid (show 1 ≤ ND by rw [← HND.out]; exact need_pos C)
        go_roundw
        case rel => exact ⟨acc ++ [tx], p, at_ + ND, true, rfl, rfl, HO6.out, HJ6.out, ⟨HB6.out.os, HB6.out.tape, HB6.out.output, HB6.out.size, HB6.out.block⟩, HRl2.out⟩
        case measure =>
          have e1 : atOf N ((w5.setCell ⟨N, 3, none⟩ (.int .i64 ((at_ + ND : Nat) : Int))).drew) = at_ + ND := HJ6.out.atOf
          rw [e1, HJ.out.atOf]
          have := HN1.out
          have := HLt.out
          omega
    · have hdone : acc = L ∧ at_ = T := by
        rcases HRl.out with ⟨h1, h2, h3, ⟨h4, h5⟩ | ⟨h4, h5, h6⟩⟩
        · have : at_ = n := by
            by_cases h : at_ < n
            · exact absurd ⟨h4, h⟩ hgo
            · omega
          subst this
          obtain ⟨a1, a2⟩ := RL.done HVl.out HRl.out
          exact ⟨a1, a2⟩
        · exact ⟨h5, h6⟩
      obtain ⟨rfl, rfl⟩ := hdone
      have hcase : ok = false ∨ (ok = true ∧ ¬ at_ < n) := by
        cases ok
        · exact .inl rfl
        · exact .inr ⟨rfl, fun h => hgo ⟨rfl, h⟩⟩
      clear hgo HBig
      rcases hcase with rfl | ⟨rfl, hnl⟩
      · clear k0 k1 k2 k4 k5 hlt0
        go_wp2_with fail
        go_loopw [17] (fun vi W => ∃ i x : Nat, i ≤ n ∧ vi = .int .i64 i ∧ x = max (gmax (V.take i) + 1) first ∧ OwnT W w.heap.size u12 (acc.map strN) ∧ RJ W N r f n at_ x false ∧ Below w.heap.size w W) (fun vi _ => n - (intOf vi).toNat)
        case atStart => exact ⟨0, first, Nat.zero_le _, rfl, by have := H1.out.1; simp [gmax]; omega, HO.out, HJ.out, HB.out⟩
        case round =>
          obtain ⟨i, x, hi, rfl, hx, ho, hj, hb⟩ := hrel
          have HX := Lib.hid hx; have HO2 := Lib.hid ho; have HJ2 := Lib.hid hj; have HB2 := Lib.hid hb
          clear hx ho hj hb
          by_cases hin : i < n
          · have hinI : (i : Int) < (n : Int) := by omega
            have hi0 : (0 : Int) ≤ (i : Int) := by omega
            obtain ⟨-, -, -, -, q4, -⟩ := HJ2.out.cells
            have hlt4 := HJ2.out.lt
            have f4 := HJ2.out.free 4
            have HM := Lib.hid (num_any wr.drew Y N r f n at_ x false m (HJ2.out.keep (drewBelow wr)) (HR.out.keep (HB2.out.trans ((drewBelow wr).mono HB2.out.size))) HP.out HF.out i hin)
            have HVi := Lib.hid (show V[i]? = some (pcOf (sector.look m (f + i))) by rw [HVS.out, List.getElem?_map, List.getElem?_range hin]; rfl)
            have HPm := Lib.hid (Pc.Ok.num (HVok.out _ (List.mem_of_getElem? HVi.out)))
            generalize pcOf (sector.look m (f + i)) = pp at HM HVi HPm
            obtain ⟨p, hp⟩ : ∃ p, pp.num = p := ⟨_, rfl⟩
            have HGm := Lib.hid (gmax_take HVi.out)
            rw [hp] at HM HPm HGm
            have e8 : wrap64 ((p : Int) + 1) = ((p + 1 : Nat) : Int) := by have := HPm.out; unfold maxNum at this; unfold wrap64; omega
            have HE8 := Lib.hid e8
            have HI1 := Lib.hid (show wrap64 ((i : Int) + 1) = ((i + 1 : Nat) : Int) by have := HF.out; have := HMn.out; unfold wrap64; omega)
            clear hp e8
            go_upto_region 21 with fail
            go_region_with (go_at_call 40; refine HM.out.mono ?_; rintro e w9 ⟨rfl, hb9⟩; have q4 := (hb9.cell (p := ⟨N, 4, none⟩) hlt4).trans q4; have f4 : w9.frozen? ⟨N, 4, none⟩ = false := ((HJ2.out.keep (drewBelow wr)).keep hb9).free 4)
            all_goals
              have hj9 := (HJ2.out.keep (drewBelow wr)).keep hb9
              have HJ9 := Lib.hid (hj9.setNum (max x (p + 1)))
              have HO9 := Lib.hid (((HO2.out.below (drewBelow wr)).below hb9).setRJ (j := 4) (x := .int .i64 ((max x (p + 1) : Nat) : Int)) hj9)
              have HB9 := Lib.hid ((HB2.out.trans (((drewBelow wr).trans hb9).mono HB2.out.size)).setCell (p := ⟨N, 4, none⟩) (by rw [HNs.out]; exact Nat.le_refl _) (.int .i64 ((max x (p + 1) : Nat) : Int)))
              have hmx : (if (x : Int) < IntKind.i64.wrap ((p : Int) + 1) then IntKind.i64.wrap ((p : Int) + 1) else (x : Int)) = ((max x (p + 1) : Nat) : Int) := by
                have : IntKind.i64.wrap ((p : Int) + 1) = (p : Int) + 1 := by have := HPm.out; unfold maxNum at this; rw [IntKind.wrap_i64]; omega
                rw [this]
                split <;> omega
              rw [hmx]
              have HX9 := Lib.hid (show max x (p + 1) = max (gmax (V.take (i + 1)) + 1) first by rw [HGm.out, HX.out]; omega)
              clear hmx hj9 hb9 q4 f4
              go_wp2_with fail
              go_roundw
              case rel => exact ⟨i + 1, _, by omega, by go_num, HX9.out, HO9.out, HJ9.out, HB9.out⟩
              case measure => simp [intOf]; omega
          · obtain rfl : i = n := by omega
            go_wp2_with fail
            refine bodyPost_ret (results_tmp3 rfl _ _ _) rfl ?_
            refine ⟨N, u12, rfl, ?_, by rw [HNs.out]; exact Nat.le_refl _, HO2.out, HB2.out⟩
            have := HX.out
            rw [List.take_of_length_le (by rw [HVl.out]; exact Nat.le_refl _)] at this
            rw [← this]
            exact HJ2.out
      · have hnlI : ¬ (at_ : Int) < (n : Int) := by omega
        clear hnl k0 k1 k2 k4 k5 hlt0
        go_wp2_with fail
        go_loopw [17] (fun vi W => ∃ i x : Nat, i ≤ n ∧ vi = .int .i64 i ∧ x = max (gmax (V.take i) + 1) first ∧ OwnT W w.heap.size u12 (acc.map strN) ∧ RJ W N r f n at_ x false ∧ Below w.heap.size w W) (fun vi _ => n - (intOf vi).toNat)
        case atStart => exact ⟨0, first, Nat.zero_le _, rfl, by have := H1.out.1; simp [gmax]; omega, HO.out, HJ.out, HB.out⟩
        case round =>
          obtain ⟨i, x, hi, rfl, hx, ho, hj, hb⟩ := hrel
          have HX := Lib.hid hx; have HO2 := Lib.hid ho; have HJ2 := Lib.hid hj; have HB2 := Lib.hid hb
          clear hx ho hj hb
          by_cases hin : i < n
          · have hinI : (i : Int) < (n : Int) := by omega
            have hi0 : (0 : Int) ≤ (i : Int) := by omega
            obtain ⟨-, -, -, -, q4, -⟩ := HJ2.out.cells
            have hlt4 := HJ2.out.lt
            have f4 := HJ2.out.free 4
            have HM := Lib.hid (num_any wr.drew Y N r f n at_ x false m (HJ2.out.keep (drewBelow wr)) (HR.out.keep (HB2.out.trans ((drewBelow wr).mono HB2.out.size))) HP.out HF.out i hin)
            have HVi := Lib.hid (show V[i]? = some (pcOf (sector.look m (f + i))) by rw [HVS.out, List.getElem?_map, List.getElem?_range hin]; rfl)
            have HPm := Lib.hid (Pc.Ok.num (HVok.out _ (List.mem_of_getElem? HVi.out)))
            generalize pcOf (sector.look m (f + i)) = pp at HM HVi HPm
            obtain ⟨p, hp⟩ : ∃ p, pp.num = p := ⟨_, rfl⟩
            have HGm := Lib.hid (gmax_take HVi.out)
            rw [hp] at HM HPm HGm
            have e8 : wrap64 ((p : Int) + 1) = ((p + 1 : Nat) : Int) := by have := HPm.out; unfold maxNum at this; unfold wrap64; omega
            have HE8 := Lib.hid e8
            have HI1 := Lib.hid (show wrap64 ((i : Int) + 1) = ((i + 1 : Nat) : Int) by have := HF.out; have := HMn.out; unfold wrap64; omega)
            clear hp e8
            go_upto_region 21 with fail
            go_region_with (go_at_call 40; refine HM.out.mono ?_; rintro e w9 ⟨rfl, hb9⟩; have q4 := (hb9.cell (p := ⟨N, 4, none⟩) hlt4).trans q4; have f4 : w9.frozen? ⟨N, 4, none⟩ = false := ((HJ2.out.keep (drewBelow wr)).keep hb9).free 4)
            all_goals
              have hj9 := (HJ2.out.keep (drewBelow wr)).keep hb9
              have HJ9 := Lib.hid (hj9.setNum (max x (p + 1)))
              have HO9 := Lib.hid (((HO2.out.below (drewBelow wr)).below hb9).setRJ (j := 4) (x := .int .i64 ((max x (p + 1) : Nat) : Int)) hj9)
              have HB9 := Lib.hid ((HB2.out.trans (((drewBelow wr).trans hb9).mono HB2.out.size)).setCell (p := ⟨N, 4, none⟩) (by rw [HNs.out]; exact Nat.le_refl _) (.int .i64 ((max x (p + 1) : Nat) : Int)))
              have hmx : (if (x : Int) < IntKind.i64.wrap ((p : Int) + 1) then IntKind.i64.wrap ((p : Int) + 1) else (x : Int)) = ((max x (p + 1) : Nat) : Int) := by
                have : IntKind.i64.wrap ((p : Int) + 1) = (p : Int) + 1 := by have := HPm.out; unfold maxNum at this; rw [IntKind.wrap_i64]; omega
                rw [this]
                split <;> omega
              rw [hmx]
              have HX9 := Lib.hid (show max x (p + 1) = max (gmax (V.take (i + 1)) + 1) first by rw [HGm.out, HX.out]; omega)
              clear hmx hj9 hb9 q4 f4
              go_wp2_with fail
              go_roundw
              case rel => exact ⟨i + 1, _, by omega, by go_num, HX9.out, HO9.out, HJ9.out, HB9.out⟩
              case measure => simp [intOf]; omega
          · obtain rfl : i = n := by omega
            go_wp2_with fail
            refine bodyPost_ret (results_tmp3 rfl _ _ _) rfl ?_
            refine ⟨N, u12, rfl, ?_, by rw [HNs.out]; exact Nat.le_refl _, HO2.out, HB2.out⟩
            have := HX.out
            rw [List.take_of_length_le (by rw [HVl.out]; exact Nat.le_refl _)] at this
            rw [← this]
            exact HJ2.out

end Go.Proofs.YtkhghkklekjdaaaDoor.journal
