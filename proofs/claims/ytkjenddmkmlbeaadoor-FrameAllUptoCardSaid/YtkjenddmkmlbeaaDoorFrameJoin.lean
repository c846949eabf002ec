/- The walks of Join: a map of 32 bits, squared. -/
import Derived.Test.YtkjenddmkmlbeaaDoorRows
import Derived.Test.YtkjenddmkmlbeaaDoorFrameSum
import Derived.Deep.Cut
namespace Go.Proofs.YtkjenddmkmlbeaaDoor.frame
open Go.RowKit
open Go.Proofs.YtkjenddmkmlbeaaDoor.kit Go.Proofs.YtkjenddmkmlbeaaDoor.own Go.Proofs.YtkjenddmkmlbeaaDoor.fm
set_option linter.unusedVariables false

def brus : List Nat := [0, 1, 28, 2, 29, 14, 24, 3, 30, 22, 20, 15, 25, 17, 4, 8, 31, 27, 13, 23, 21, 19, 16, 7, 26, 12, 18, 6, 11, 5, 10, 9]
def bru (q : Nat) : Nat := brus.getD q 0
theorem bru_lt (q : Nat) : bru q < 32 := by
  unfold bru
  by_cases h : q < 32
  · have : ∀ q : Fin 32, brus.getD q.val 0 < 32 := by decide
    exact this ⟨q, h⟩
  · simp [List.getD, brus, show ¬ q < 32 from h]
/-- The table of the library, as it lies. -/
def Bru (w : World) : Prop := ∀ q, q < 32 → w.cell? ⟨1, q, none⟩ = some (.int .u8 (bru q : Nat))
theorem Bru.keep {w w' : World} (h : Bru w) (hb : Below w.heap.size w w') : Bru w' := fun q hq => (hb.cell (p := ⟨_, q, none⟩) (cell_lt (h q hq))).trans (h q hq)

def lowP (x : Nat) : Nat := x &&& (4294967296 - x)
def tzI (x : Nat) : Nat := (lowP x * 125613361 % 4294967296) / 134217728
def tzP (x : Nat) : Nat := bru (tzI x)
theorem tzI_lt (x : Nat) : tzI x < 32 := by unfold tzI; omega

set_option maxHeartbeats 1000000 in
theorem tz_core (x k idx : Nat) (w : World) (hx0 : ((x : Int) == 0) = false)
    (key : bits BinOp.and IntKind.u32 (x : Int) (-(x : Int) % 4294967296) * 125613361 % 4294967296 / 134217728 = (idx : Int))
    (hi : idx < 32) (hk : k < 32) (hcell : w.cell? ⟨1, idx, none⟩ = some (.int .u8 k)) :
    Calls Tryd.prog 30 #[.int .u32 x] w fun e w' => e = .returned (.int .i64 k) ∧ w = w' := by
  go_enter Tryd.func30, Tryd.ntmps30
  go_wp2_with (simp only [key])
  go_ret
  exact ⟨rfl, rfl⟩
theorem tz_key (x : Nat) (hx : x < 4294967296) (h0 : 0 < x) : bits BinOp.and IntKind.u32 (x : Int) (-(x : Int) % 4294967296) * 125613361 % 4294967296 / 134217728 = ((tzI x : Nat) : Int) := by
  have e1 : -(x : Int) % 4294967296 = ((4294967296 - x : Nat) : Int) := by omega
  rw [e1, u32_and_nat x _ hx (by omega)]
  unfold tzI lowP
  simp
theorem tz_any (x : Nat) (h0 : 0 < x) (hx : x < 4294967296) (w : World) (hb : Bru w) :
    Calls Tryd.prog 30 #[.int .u32 x] w fun e w' => e = .returned (.int .i64 (tzP x)) ∧ w = w' :=
  tz_core x _ _ w (by rw [beq_eq_false_iff_ne]; omega) (tz_key x hx h0) (tzI_lt x) (bru_lt _) (hb _ (tzI_lt x))

/-- Thirty-two words. -/
def arr32 (m : Nat → Nat) : Array Value := ((List.range 32).map fun j => Value.int .u32 (m j : Nat)).toArray
theorem arr32_one (m : Nat → Nat) : (arr32 m).all (·.oneCell') = true := all_oneCell_toArray (fun v hv => by
  obtain ⟨_, _, rfl⟩ := List.mem_map.1 hv
  rfl)
theorem arr32_at (m : Nat → Nat) (q : Nat) (hq : q < 32) : (arr32 m)[q]? = some (.int .u32 (m q : Nat)) := by
  simp [arr32, hq]
theorem infoMap : (Tryd.prog.info? 65).map (·.size) = some 32 := by kernel_rfl

/-- What a map comes to: as many rounds as there are bits. -/
def ofF (m : Nat → Nat) (n : Nat) : Nat → Nat → Nat :=
  Nat.rec (fun _ x => x) (fun _ ih s x => bif s == 0 then x else ih (s &&& (s - 1)) (x ^^^ m (tzP s))) n
def ofM (m : Nat → Nat) (x : Nat) : Nat := ofF m x x 0
theorem ofF_step (m : Nat → Nat) (n s x : Nat) (h : 0 < s) : ofF m (n + 1) s x = ofF m n (s &&& (s - 1)) (x ^^^ m (tzP s)) := by
  show (bif s == 0 then x else ofF m n (s &&& (s - 1)) (x ^^^ m (tzP s))) = _
  rw [show (s == 0) = false from by rw [beq_eq_false_iff_ne]; omega]; rfl
theorem ofF_zero (m : Nat → Nat) (n x : Nat) : ofF m n 0 x = x := by
  cases n with
  | zero => rfl
  | succ n => rfl
/-- What is still to come, out of s and x, is T. -/
def OfR (m : Nat → Nat) (T s x : Nat) : Prop := ∃ n, s ≤ n ∧ s < 4294967296 ∧ x < 4294967296 ∧ ofF m n s x = T
theorem OfR.step {m : Nat → Nat} {T s x : Nat} (hm : ∀ j, j < 32 → m j < 4294967296) (h : OfR m T s x) (h0 : 0 < s) : OfR m T (s &&& (s - 1)) (x ^^^ m (tzP s)) := by
  obtain ⟨n, hn, hs, hx, he⟩ := h
  obtain ⟨n, rfl⟩ : ∃ n', n = n' + 1 := ⟨n - 1, by omega⟩
  rw [ofF_step m n s x h0] at he
  have h1 : s &&& (s - 1) ≤ s - 1 := Nat.and_le_right
  exact ⟨n, by omega, by omega, Nat.xor_lt_two_pow (n := 32) hx (hm _ (bru_lt _)), he⟩
theorem OfR.fin {m : Nat → Nat} {T x : Nat} (h : OfR m T 0 x) : x = T := by
  obtain ⟨n, _, _, _, he⟩ := h
  rw [ofF_zero] at he; exact he
theorem ofM_lt (m : Nat → Nat) (hm : ∀ j, j < 32 → m j < 4294967296) : ∀ n s x, x < 4294967296 → ofF m n s x < 4294967296
  | 0, s, x, hx => hx
  | n + 1, s, x, hx => by
    rcases Nat.eq_zero_or_pos s with rfl | h
    · rw [ofF_zero]; exact hx
    · rw [ofF_step m n s x h]
      exact ofM_lt m hm n _ _ (Nat.xor_lt_two_pow (n := 32) hx (hm _ (bru_lt _)))

set_option maxHeartbeats 1000000 in
set_option maxRecDepth 100000 in
theorem of_any (m : Nat → Nat) (hm : ∀ j, j < 32 → m j < 4294967296) (x : Nat) (hx : x < 4294967296) (w : World) (hb : Bru w) :
    Calls Tryd.prog 28 #[.agg (arr32 m), .int .u32 x] w fun e w' => e = .returned (.int .u32 (ofM m x)) ∧ Below w.heap.size w w' := by
  have HS := Lib.hid (show OfR m (ofM m x) x 0 from ⟨x, Nat.le_refl _, hx, by omega, rfl⟩)
  generalize ofM m x = T at HS
  have HM := Lib.hid hm
  have HB := Lib.hid (hb.keep ((Below.refl _ _).alloc (Nat.le_refl _) (.cells (arr32 m) 65)))
  have HA := Lib.hid (arr32_at m)
  clear hm hb hx
  have HE := Lib.hid ((Below.refl w.heap.size w).alloc (Nat.le_refl _) (.cells (arr32 m) 65))
  generalize arr32 m = A at HB HA HE
  go_enter Tryd.func28, Tryd.ntmps28
  go_wp2
  go_loop [1, 5] (fun vs vx => ∃ s x : Nat, OfR m T s x ∧ vs = .int .u32 s ∧ vx = .int .u32 x) (fun s _ => (intOf s).toNat)
  case atStart => exact ⟨x, 0, HS.out, rfl, rfl⟩
  case round =>
    obtain ⟨s, x, ht, rfl, rfl⟩ := hrel
    have HT := Lib.hid ht
    obtain ⟨_, _, hs, hx, _⟩ := ht
    by_cases h0 : 0 < s
    · have HN := Lib.hid (HT.out.step HM.out h0)
      have hz : True → ((s : Int) == 0) = false := fun _ => by rw [beq_eq_false_iff_ne]; omega
      have hz' : True → ((s : Int) != 0) = true := fun _ => by rw [bne_iff_ne]; omega
      have hmt := HM.out (tzP s) (bru_lt _)
      have HTZ := Lib.hid (tz_any s h0 hs _ HB.out)
      have hlt : tzP s < 32 := bru_lt _
      have h1 := HA.out (tzP s) hlt
      have e1 : True → bits BinOp.xor IntKind.u32 (x : Int) (m (tzP s) : Int) = ((x ^^^ m (tzP s) : Nat) : Int) := fun _ => xor_u32 x _ hx hmt
      have e2 : True → (s : Int) - 1 = ((s - 1 : Nat) : Int) := fun _ => by omega
      have hs1 : s - 1 < 4294967296 := by omega
      have e4 : True → ((s - 1 : Nat) : Int) % 4294967296 = ((s - 1 : Nat) : Int) := fun _ => by omega
      have hle : s &&& (s - 1) < s := Nat.lt_of_le_of_lt Nat.and_le_right (by omega)
      have e3 : True → bits BinOp.and IntKind.u32 (s : Int) ((s - 1 : Nat) : Int) = ((s &&& (s - 1) : Nat) : Int) := fun _ => u32_and_nat s _ hs hs1
      generalize s &&& (s - 1) = s2 at e3 HN hle
      generalize s - 1 = s1 at e2 e3 e4 hs1
      generalize x ^^^ m (tzP s) = x2 at e1 HN
      generalize m (tzP s) = mt at e1 h1 hmt
      generalize tzP s = tz at HTZ hlt h1
      have hlt' : (tz : Int) < 32 := by omega
      have hle' : (s2 : Int) < s := by omega
      clear hmt hs1 hx hs
      go_wp2_with fail
      refine HTZ.out.mono ?_
      rintro e w' ⟨rfl, rfl⟩
      go_wp2
      go_round
      case rel => exact ⟨s2, x2, HN.out, rfl, rfl⟩
      case measure => simp [intOf]; omega
    · obtain rfl : s = 0 := by omega
      have HF := Lib.hid HT.out.fin
      clear hx hs
      go_wp2
      go_ret
      exact ⟨ret_int (by rw [HF.out]), HE.out⟩

def zeroM (j : Nat) : Nat := sumB (2 ^ j) 0
def sqM (m : Nat → Nat) (j : Nat) : Nat := ofM m (m j)
theorem zeroM_lt (j : Nat) (h : j < 32) : zeroM j < 4294967296 := sumB_lt _ _ (Nat.pow_lt_pow_right (by decide) h) (by omega)
theorem sqM_lt (m : Nat → Nat) (hm : ∀ j, j < 32 → m j < 4294967296) (j : Nat) : sqM m j < 4294967296 := ofM_lt m hm _ _ _ (by omega)

def zeros32 : Array Value := #[.int .u32 0, .int .u32 0, .int .u32 0, .int .u32 0, .int .u32 0, .int .u32 0, .int .u32 0, .int .u32 0, .int .u32 0, .int .u32 0, .int .u32 0, .int .u32 0, .int .u32 0, .int .u32 0, .int .u32 0, .int .u32 0,
  .int .u32 0, .int .u32 0, .int .u32 0, .int .u32 0, .int .u32 0, .int .u32 0, .int .u32 0, .int .u32 0, .int .u32 0, .int .u32 0, .int .u32 0, .int .u32 0, .int .u32 0, .int .u32 0, .int .u32 0, .int .u32 0]
theorem zeros32_eq : zeros32 = arr32 (fun _ => 0) := by rfl
theorem zeros32_at (i : Nat) (hi : i < zeros32.size) : zeros32[i]? = some ((fun _ => Value.int .u32 0) i) := by
  rw [zeros32_eq, arr32_at _ i hi]; rfl
theorem row_keep {w w' : World} {b : Nat} {t : TypeId} {n : Nat} {f : Nat → Value} (h : w.rowIs b t n f) (hb : Below w.heap.size w w') : w'.rowIs b t n f := by
  obtain ⟨c, hc, hs, hf⟩ := h
  exact ⟨c, (hb.block b (Array.getElem?_eq_some_iff.1 hc).1).trans hc, hs, hf⟩
theorem row_lt {w : World} {b : Nat} {t : TypeId} {n : Nat} {f : Nat → Value} (h : w.rowIs b t n f) (hn : 0 < n) : b < w.heap.size := cell_lt (h.cell hn)

theorem wrap_u32_in (p : Nat) (h : p < 4294967296) : IntKind.u32.wrap (p : Int) = (p : Int) := by simp [IntKind.wrap, IntKind.bits, IntKind.signed]; omega

/-- The cells up to k are m's, all others 0. -/
def upTo (m : Nat → Nat) (k : Nat) : Nat → Value := fun j => .int .u32 ((if j < k then m j else 0 : Nat) : Int)
theorem upTo_set (m : Nat → Nat) (k : Nat) {w : World} {b : Nat} {t : TypeId} (h : w.rowIs b t 32 (upTo m k)) (hk : k < 32) : (w.setCell ⟨b, k, none⟩ (.int .u32 (m k : Nat))).rowIs b t 32 (upTo m (k + 1)) :=
  (h.set k (.int .u32 (m k : Nat))).congr (fun j hj => by
    unfold upTo
    by_cases e : j = k
    · subst e; simp
    · by_cases e2 : j < k
      · simp [e, e2, show j < k + 1 by omega]
      · simp [e, e2, show ¬ j < k + 1 by omega])

set_option maxHeartbeats 4000000 in
set_option maxRecDepth 100000 in
theorem zeroByte_any (w : World) (hn : Nib w) :
    Calls Tryd.prog 27 #[] w fun e w' => e = .returned (.agg (arr32 zeroM)) ∧ Below w.heap.size w w' := by
  have HN := Lib.hid hn
  clear hn
  go_enter Tryd.func27, Tryd.ntmps27
  go_wp2
  go_loopw [3] (fun vi wr => ∃ k : Nat, k ≤ 32 ∧ vi = .int .i64 k ∧ wr.rowIs (w.heap.size + 1) 65 32 (upTo zeroM k) ∧ wr.rowIs w.heap.size 65 32 (fun j => .int .u32 0) ∧ Below w.heap.size w wr) (fun i _ => 32 - (intOf i).toNat)
  case atStart =>
    have h2 := World.rowIs_alloc w zeros32 65 (fun _ => .int .u32 0) zeros32_at
    refine ⟨0, by omega, rfl, ?_, h2.alloc _, ((Below.refl _ _).alloc (Nat.le_refl _) _).alloc (by simp) _⟩
    have h1 := World.rowIs_alloc (w.alloc (.cells zeros32 65)) zeros32 65 (fun _ => .int .u32 0) zeros32_at
    rw [World.size_alloc] at h1
    exact h1.congr (fun j hj => by simp [upTo])
  case round =>
    obtain ⟨k, hk, rfl, hr, hr0, hb⟩ := hrel
    have HR := Lib.hid hr; have HR0 := Lib.hid hr0; have HB := Lib.hid hb
    have HNw := Lib.hid (HN.out.keep hb)
    clear hb hr hr0
    by_cases hlt : k < 32
    · have f1 := HR.out.frozen k
      have c1 := HR.out.cell (i := k) (by omega)
      have hp : 2 ^ k < 4294967296 := by
        have : 2 ^ k < 2 ^ 32 := Nat.pow_lt_pow_right (by decide) hlt
        exact this
      have HZ := Lib.hid (show zeroM k = sumB (2 ^ k) 0 from rfl)
      have e1 : True → (2 : Int) ^ k = ((2 ^ k : Nat) : Int) := fun _ => by simp
      have e2 : True → IntKind.u32.wrap ((2 ^ k : Nat) : Int) = ((2 ^ k : Nat) : Int) := fun _ => wrap_u32_in _ hp
      have HP := Lib.hid hp
      generalize 2 ^ k = p at e1 e2 HP HZ
      have HL := Lib.hid hlt
      have hkI : (k : Int) < 32 := by omega
      clear hp hlt
      go_wp2_with fail
      refine (sumByte_any p 0 HP.out (by omega) _ HNw.out).mono ?_
      rintro e w' ⟨rfl, rfl⟩
      go_wp2
      go_roundw
      case rel =>
        rw [← HZ.out]
        exact ⟨k + 1, by have := HL.out; omega, by go_num, upTo_set zeroM k HR.out HL.out, HR0.out.setOther (by simp) _, HB.out.setCell (p := ⟨w.heap.size + 1, k, none⟩) (by simp) _⟩
      case measure => simp [intOf]; omega
    · obtain rfl : k = 32 := by omega
      have hr := HR.out.congr (g := fun j => .int .u32 (zeroM j : Nat)) (fun j hj => by simp [upTo, hj])
      have hA := range_of_row hr; have hT := there_of_row HR0.out
      clear hr
      go_wp2_with (first
        | refine wpList_load_mid rfl 65 _ rfl (w.heap.size + 1) 0 rfl _ _ hA Tryd.underlying65 rfl infoMap ?_
        | refine wpList_store_mid rfl 65 _ _ rfl w.heap.size 0 (arr32 zeroM) rfl rfl hT infoMap (arr32_one zeroM) ?_)
      refine bodyPost_ret (ret_cell rfl rfl (World.rangeAt_setCells_same _ _ _ _ hT) Tryd.underlying65 rfl infoMap) rfl ?_
      exact ⟨rfl, Below.setCells HB.out (Nat.le_refl _) _ _⟩

theorem arr_index (A : Array Value) (k mk : Nat) (hk : k < 32) (h : A[k]? = some (.int .u32 mk)) (w : World) : (Instr.index 65 (.agg A) (.int .i64 k)).run Tryd.prog w = .ok (.int .u32 mk) w := by
  have hn : (0 : Int) ≤ (k : Int) ∧ (k : Int) < 32 := by omega
  simp [Instr.index, run_underlying Tryd.underlying65, asIntOf, hn, go_sem, part, h]
  omega

def list32 (m : Nat → Nat) : List Value := (List.range 32).map fun j => Value.int .u32 (m j : Nat)

set_option maxHeartbeats 4000000 in
set_option maxRecDepth 100000 in
theorem squared_any (m : Nat → Nat) (hm : ∀ j, j < 32 → m j < 4294967296) (w : World) (hb : Bru w) :
    Calls Tryd.prog 29 #[.agg (arr32 m)] w fun e w' => e = .returned (.agg (arr32 (sqM m))) ∧ Below w.heap.size w w' := by
  have HM := Lib.hid hm; have HBr := Lib.hid hb
  have HA := World.rowIs_alloc w (arr32 m) 65 (fun j => .int .u32 (m j : Nat)) (fun i hi => arr32_at m i (by simpa [arr32] using hi))
  have hsz : (arr32 m).size = 32 := by simp [arr32]
  rw [hsz] at HA
  have HA0 := Lib.hid HA
  obtain ⟨A, hAd⟩ : ∃ A, arr32 m = A := ⟨_, rfl⟩
  have HAt := Lib.hid (fun q hq => (congrArg (fun x => x[q]?) hAd).symm.trans (arr32_at m q hq))
  obtain ⟨Ls, hLd⟩ : ∃ Ls, list32 m = Ls := ⟨_, rfl⟩
  have HLd := Lib.hid hLd
  have HD := Lib.hid (show Ls.toArray = A by rw [← hLd]; exact hAd)
  have HLi := Lib.hid (show (Tryd.prog.info? 65).map (·.size) = some Ls.length by rw [← hLd, infoMap]; simp [list32])
  clear hLd
  rw [hAd] at HA0 ⊢
  clear hm hb hsz HA hAd
  have HZ := Lib.hid (((World.rowIs_alloc (w.alloc (.cells A 65)) zeros32 65 (fun _ => .int .u32 0) zeros32_at).alloc (.cells zeros32 65)))
  have HZ1 := Lib.hid (World.rowIs_alloc ((w.alloc (.cells A 65)).alloc (.cells zeros32 65)) zeros32 65 (fun _ => .int .u32 0) zeros32_at)
  have HA2 := Lib.hid ((HA0.out.alloc (.cells zeros32 65)).alloc (.cells zeros32 65))
  have HBel := Lib.hid ((((Below.refl w.heap.size w).alloc (Nat.le_refl _) (.cells A 65)).alloc (by simp) (.cells zeros32 65)).alloc (by simp; omega) (.cells zeros32 65))
  have hz32 : zeros32.size = 32 := rfl
  rw [hz32] at HZ HZ1
  simp only [World.size_alloc] at HZ HZ1
  clear HA0 hz32
  go_enter Tryd.func29, Tryd.ntmps29
  go_upto_region 2 with fail
  unfold zeros32 at HZ HZ1 HA2 HBel
  generalize (((w.alloc (.cells A 65)).alloc _).alloc _) = W0 at HZ HZ1 HA2 HBel ⊢
  have hA : W0.rangeAt w.heap.size 0 Ls := by rw [← HLd.out]; exact range_of_row HA2.out
  have HAr := Lib.hid hA
  clear hA
  go_wp2_with (refine wpList_load_mid rfl 65 _ rfl w.heap.size 0 rfl _ _ HAr.out Tryd.underlying65 rfl HLi.out ?_)
  rw [HD.out]
  clear HAr
  go_loopw [7] (fun vi wr => ∃ k : Nat, k ≤ 32 ∧ vi = .int .i64 k ∧ wr.rowIs (w.heap.size + 1 + 1) 65 32 (upTo (sqM m) k) ∧ wr.rowIs (w.heap.size + 1) 65 32 (fun j => .int .u32 0) ∧ wr.rowIs w.heap.size 65 32 (fun j => .int .u32 (m j : Nat)) ∧ Below w.heap.size w wr) (fun i _ => 32 - (intOf i).toNat)
  case atStart => exact ⟨0, by omega, rfl, HZ1.out.congr (fun j hj => by simp [upTo]), HZ.out, HA2.out, HBel.out⟩
  case round =>
    obtain ⟨k, hk, rfl, hr, hr0, hr1, hb⟩ := hrel
    have HR := Lib.hid hr; have HR0 := Lib.hid hr0; have HR1 := Lib.hid hr1; have HB := Lib.hid hb
    have HBw := Lib.hid (HBr.out.keep hb)
    clear hb hr hr0 hr1
    by_cases hlt : k < 32
    · have hAk := HAt.out k hlt
      have HSq := Lib.hid (show sqM m k = ofM m (m k) from rfl)
      have hmk := Lib.hid (HM.out k hlt)
      generalize m k = mk at hAk HSq hmk
      have HL := Lib.hid hlt
      have hkI : (k : Int) < 32 := by omega
      have hk0 : (0 : Int) ≤ k := by omega
      have HAr := Lib.hid (show wr.rangeAt w.heap.size 0 Ls by rw [← HLd.out]; exact range_of_row HR1.out)
      clear hlt
      have hix := arr_index A k mk HL.out hAk wr
      clear hAk
      go_wp2_with (refine wpList_load_mid rfl 65 _ rfl w.heap.size 0 rfl _ _ HAr.out Tryd.underlying65 rfl HLi.out ?_)
      have HOf := Lib.hid (of_any m HM.out mk hmk.out wr HBw.out)
      rw [show arr32 m = Ls.toArray by rw [← HLd.out]; rfl] at HOf
      refine HOf.out.mono ?_
      rintro e w1 ⟨rfl, hb1⟩
      have HB1 := Lib.hid (HB.out.trans (hb1.mono HB.out.size))
      have HR' := Lib.hid (row_keep HR.out hb1); have HR0' := Lib.hid (row_keep HR0.out hb1); have HR1' := Lib.hid (row_keep HR1.out hb1)
      rw [← HSq.out]
      clear hix HOf hb1 HR HR0 HR1 HB HAr
      have f1 := HR'.out.frozen k
      have c1 := HR'.out.cell (i := k) HL.out
      go_wp2
      go_roundw
      case rel =>
        exact ⟨k + 1, by have := HL.out; omega, by go_num, upTo_set (sqM m) k HR'.out HL.out, HR0'.out.setOther (by simp) _, HR1'.out.setOther (by simp; omega) _, HB1.out.setCell (p := ⟨w.heap.size + 1 + 1, k, none⟩) (by simp; omega) _⟩
      case measure => simp [intOf]; omega
    · obtain rfl : k = 32 := by omega
      have hr := HR.out.congr (g := fun j => .int .u32 (sqM m j : Nat)) (fun j hj => by simp [upTo, hj])
      have hA := range_of_row hr; have hT := there_of_row HR0.out
      clear hr
      go_wp2_with (first
        | refine wpList_load_mid rfl 65 _ rfl (w.heap.size + 1 + 1) 0 rfl _ _ hA Tryd.underlying65 rfl infoMap ?_
        | refine wpList_store_mid rfl 65 _ _ rfl (w.heap.size + 1) 0 (arr32 (sqM m)) rfl rfl hT infoMap (arr32_one (sqM m)) ?_)
      refine bodyPost_ret (ret_cell rfl rfl (World.rangeAt_setCells_same _ _ _ _ hT) Tryd.underlying65 rfl infoMap) rfl ?_
      exact ⟨rfl, Below.setCells HB.out (by omega) _ _⟩

/-- The variable m, its cells, and a store over all of them. -/
def MapAt (W : World) (b : Nat) (m : Nat → Nat) : Prop := W.rowIs b 65 32 (fun j => .int .u32 (m j : Nat))
theorem MapAt.range {W : World} {b : Nat} {m : Nat → Nat} (h : MapAt W b m) : W.rangeAt b 0 (list32 m) := range_of_row h
theorem MapAt.there {W : World} {b : Nat} {m : Nat → Nat} (h : MapAt W b m) : W.there b 0 32 := there_of_row h
theorem MapAt.keep {W W' : World} {b : Nat} {m : Nat → Nat} (h : MapAt W b m) (hb : Below W.heap.size W W') : MapAt W' b m := row_keep h hb
theorem infoList (m : Nat → Nat) : (Tryd.prog.info? 65).map (·.size) = some (list32 m).length := by rw [infoMap]; simp [list32]
theorem row_setCells {b : Nat} {t : TypeId} {n : Nat} : ∀ (vs : List Value) (o : Nat) (W : World) (f : Nat → Value), W.rowIs b t n f →
    (W.setCells b o vs).rowIs b t n (fun j => if o ≤ j then (vs[j - o]?).getD (f j) else f j)
  | [], o, W, f, h => h.congr (fun j hj => by simp)
  | v :: vs, o, W, f, h => by
    have := row_setCells vs (o + 1) _ _ (h.set o v)
    refine World.rowIs.congr this (fun j hj => ?_)
    by_cases e : j = o
    · subst e; simp; omega
    · by_cases e1 : o + 1 ≤ j
      · have e2 : o ≤ j := by omega
        have e3 : j - o = (j - (o + 1)) + 1 := by omega
        simp [e, e1, e2, e3]
      · have e2 : ¬ o ≤ j := by omega
        simp [e, e1, e2]
theorem MapAt.store {W : World} {b : Nat} {f : Nat → Value} (m : Nat → Nat) (h : W.rowIs b 65 32 f) : MapAt (W.setCells b 0 (arr32 m).toList) b m :=
  World.rowIs.congr (row_setCells (arr32 m).toList 0 W f h) (fun j hj => by
    have h1 := arr32_at m j hj
    rw [← Array.getElem?_toList] at h1
    simp only [Nat.zero_le, if_true, Nat.sub_zero]
    rw [h1]; rfl)

theorem arr32_size (m : Nat → Nat) : (arr32 m).size = 32 := by simp [arr32]
theorem arr32_info (m : Nat → Nat) : (Tryd.prog.info? 65).map (·.size) = some (arr32 m).size := by rw [infoMap, arr32_size]
theorem squared_list (m : Nat → Nat) (hm : ∀ j, j < 32 → m j < 4294967296) (w : World) (hb : Bru w) :
    Calls Tryd.prog 29 #[.agg (list32 m).toArray] w fun e w' => e = .returned (.agg (arr32 (sqM m))) ∧ Below w.heap.size w w' := squared_any m hm w hb
theorem of_list (m : Nat → Nat) (hm : ∀ j, j < 32 → m j < 4294967296) (x : Nat) (hx : x < 4294967296) (w : World) (hb : Bru w) :
    Calls Tryd.prog 28 #[.agg (list32 m).toArray, .int .u32 x] w fun e w' => e = .returned (.int .u32 (ofM m x)) ∧ Below w.heap.size w w' := of_any m hm x hx w hb

/-- Zeros laid, four of them. -/
def layF (a : Nat) : Nat := ofM (sqM (sqM zeroM)) a

set_option maxHeartbeats 4000000 in
set_option maxRecDepth 100000 in
theorem layZeros_four (a : Nat) (ha : a < 4294967296) (w : World) (hn : Nib w) (hb : Bru w) :
    Calls Tryd.prog 26 #[.int .u32 a, .int .i64 4] w fun e w' => e = .returned (.int .u32 (layF a)) ∧ Below w.heap.size w w' := by
  have HN := Lib.hid hn; have HBr := Lib.hid hb; have HA := Lib.hid ha
  clear hn hb ha
  go_enter Tryd.func26, Tryd.ntmps26
  go_wp2_with fail
  refine (zeroByte_any _ HN.out).mono ?_
  rintro e w1 ⟨rfl, hb1⟩
  have hz0 := World.rowIs_alloc w1 zeros32 65 (fun _ => .int .u32 0) zeros32_at
  have HT := Lib.hid (there_of_row hz0)
  have HM := Lib.hid (MapAt.store zeroM hz0)
  have HB := Lib.hid (Below.setCells (hb1.alloc hb1.size (.cells zeros32 65)) (b := w1.heap.size) hb1.size 0 (arr32 zeroM).toList)
  have HN1 := Lib.hid (HN.out.keep HB.out); have HBr1 := Lib.hid (HBr.out.keep HB.out)
  have HBs := Lib.hid hb1.size
  have HSz := Lib.hid (show w1.heap.size < (w1.alloc (.cells zeros32 65)).heap.size by rw [World.size_alloc]; omega)
  clear hz0 hb1
  go_wp2_with (refine wpList_store_mid rfl 65 _ _ rfl w1.heap.size 0 (arr32 zeroM) rfl rfl HT.out infoMap (arr32_one zeroM) ?_)
  unfold zeros32 at HM HB HN1 HBr1
  clear HT HSz
  generalize (w1.alloc _).setCells w1.heap.size 0 (arr32 zeroM).toList = W1 at HM HB HN1 HBr1 ⊢
  generalize w1.heap.size = b at *
  have HM1 := HM; have HB1 := HB; have HL1 := Lib.hid zeroM_lt
  clear HM HB
  refine wp_loop_rounds 4 ?_
  rw [rounds_succ]
  go_wp2_with (refine wpList_load_mid rfl 65 _ rfl b 0 rfl _ _ HM1.out.range Tryd.underlying65 rfl (infoList _) ?_)
  refine (squared_list (zeroM) HL1.out _ HBr1.out).mono ?_
  rintro e w2 ⟨rfl, hb2⟩
  have HT2 := Lib.hid (HM1.out.keep hb2).there
  have HM2 := Lib.hid (MapAt.store (sqM (zeroM)) (HM1.out.keep hb2))
  have HB2 := Lib.hid (Below.setCells (HB1.out.trans (hb2.mono HB1.out.size)) (b := b) HBs.out 0 (arr32 (sqM (zeroM))).toList)
  have HL2 := Lib.hid (fun j (_ : j < 32) => sqM_lt (zeroM) HL1.out j)
  have HN2 := Lib.hid (HN.out.keep HB2.out); have HBr2 := Lib.hid (HBr.out.keep HB2.out)
  clear HM1 HB1 HN1 HBr1 hb2
  have HO2 := Lib.hid (arr32_one (sqM (zeroM)))
  have HI2 := Lib.hid (arr32_info (sqM (zeroM)))
  rw [← arr32_size (sqM (zeroM))] at HT2
  generalize arr32 (sqM (zeroM)) = A2 at HM2 HB2 HN2 HBr2 HO2 HI2 HT2 ⊢
  go_wp2_with (refine wpList_store_mid rfl 65 _ _ rfl b 0 A2 rfl rfl HT2.out HI2.out HO2.out ?_)
  clear HT2 HO2 HI2
  generalize w2.setCells b 0 A2.toList = W2 at HM2 HB2 HN2 HBr2 ⊢
  rw [rounds_succ]
  go_wp2_with (refine wpList_load_mid rfl 65 _ rfl b 0 rfl _ _ HM2.out.range Tryd.underlying65 rfl (infoList _) ?_)
  refine (squared_list (sqM zeroM) HL2.out _ HBr2.out).mono ?_
  rintro e w3 ⟨rfl, hb3⟩
  have HT3 := Lib.hid (HM2.out.keep hb3).there
  have HM3 := Lib.hid (MapAt.store (sqM (sqM zeroM)) (HM2.out.keep hb3))
  have HB3 := Lib.hid (Below.setCells (HB2.out.trans (hb3.mono HB2.out.size)) (b := b) HBs.out 0 (arr32 (sqM (sqM zeroM))).toList)
  have HL3 := Lib.hid (fun j (_ : j < 32) => sqM_lt (sqM zeroM) HL2.out j)
  have HN3 := Lib.hid (HN.out.keep HB3.out); have HBr3 := Lib.hid (HBr.out.keep HB3.out)
  clear HM2 HB2 HN2 HBr2 hb3
  have HO3 := Lib.hid (arr32_one (sqM (sqM zeroM)))
  have HI3 := Lib.hid (arr32_info (sqM (sqM zeroM)))
  rw [← arr32_size (sqM (sqM zeroM))] at HT3
  generalize arr32 (sqM (sqM zeroM)) = A3 at HM3 HB3 HN3 HBr3 HO3 HI3 HT3 ⊢
  go_wp2_with (refine wpList_store_mid rfl 65 _ _ rfl b 0 A3 rfl rfl HT3.out HI3.out HO3.out ?_)
  clear HT3 HO3 HI3
  generalize w3.setCells b 0 A3.toList = W3 at HM3 HB3 HN3 HBr3 ⊢
  rw [rounds_succ]
  go_wp2_with (refine wpList_load_mid rfl 65 _ rfl b 0 rfl _ _ HM3.out.range Tryd.underlying65 rfl (infoList _) ?_)
  refine (of_list (sqM (sqM zeroM)) HL3.out a HA.out _ HBr3.out).mono ?_
  rintro e w0 ⟨rfl, hb0⟩
  have HM4 := Lib.hid (HM3.out.keep hb0)
  have HB4 := Lib.hid (HB3.out.trans (hb0.mono HB3.out.size))
  have HN4 := Lib.hid (HN.out.keep HB4.out); have HBr4 := Lib.hid (HBr.out.keep HB4.out)
  have HL4 := HL3
  rw [show ofM (sqM (sqM zeroM)) a = layF a from rfl]
  clear HM3 HB3 HN3 HBr3 hb0
  go_wp2_with (refine wpList_load_mid rfl 65 _ rfl b 0 rfl _ _ HM4.out.range Tryd.underlying65 rfl (infoList _) ?_)
  refine (squared_list (sqM (sqM zeroM)) HL4.out _ HBr4.out).mono ?_
  rintro e v5 ⟨rfl, hb5⟩
  have HT5 := Lib.hid (HM4.out.keep hb5).there
  have HM5 := Lib.hid (MapAt.store (sqM (sqM (sqM zeroM))) (HM4.out.keep hb5))
  have HB5 := Lib.hid (Below.setCells (HB4.out.trans (hb5.mono HB4.out.size)) (b := b) HBs.out 0 (arr32 (sqM (sqM (sqM zeroM)))).toList)
  have HL5 := Lib.hid (fun j (_ : j < 32) => sqM_lt (sqM (sqM zeroM)) HL4.out j)
  have HN5 := Lib.hid (HN.out.keep HB5.out); have HBr5 := Lib.hid (HBr.out.keep HB5.out)
  clear HM4 HB4 HN4 HBr4 hb5
  have HO5 := Lib.hid (arr32_one (sqM (sqM (sqM zeroM))))
  have HI5 := Lib.hid (arr32_info (sqM (sqM (sqM zeroM))))
  rw [← arr32_size (sqM (sqM (sqM zeroM)))] at HT5
  generalize arr32 (sqM (sqM (sqM zeroM))) = A5 at HM5 HB5 HN5 HBr5 HO5 HI5 HT5 ⊢
  go_wp2_with (refine wpList_store_mid rfl 65 _ _ rfl b 0 A5 rfl rfl HT5.out HI5.out HO5.out ?_)
  clear HT5 HO5 HI5
  generalize v5.setCells b 0 A5.toList = W5 at HM5 HB5 HN5 HBr5 ⊢
  rw [rounds_succ]
  go_wp2
  go_ret
  exact ⟨rfl, HB5.out⟩

theorem layF_lt (a : Nat) : layF a < 4294967296 := ofM_lt _ (fun j _ => sqM_lt _ (fun j _ => sqM_lt _ zeroM_lt j) j) _ _ _ (by omega)

set_option maxRecDepth 100000 in
theorem Join_four (a b : Nat) (ha : a < 4294967296) (hb' : b < 4294967296) (w : World) (hn : Nib w) (hb : Bru w) :
    Calls Tryd.prog 22 #[.int .u32 a, .int .u32 b, .int .i64 4] w fun e w' => e = .returned (.int .u32 (layF a ^^^ b : Nat)) ∧ Below w.heap.size w w' := by
  have HX := Lib.hid (xor_u32 (layF a) b (layF_lt a) hb')
  have HL := Lib.hid (layZeros_four a ha w hn hb)
  generalize layF a = c at HX HL
  clear ha hb' hn hb
  go_enter Tryd.func22, Tryd.ntmps22
  go_wp2_with fail
  refine HL.out.mono ?_
  rintro e w' ⟨rfl, hb1⟩
  have HB := Lib.hid hb1
  clear hb1
  go_wp2
  go_ret
  exact ⟨ret_int (by rw [← HX.out]), HB.out⟩

set_option maxRecDepth 100000 in
theorem join_at : layF (crc [49, 50, 51, 52, 53]) ^^^ crc [54, 55, 56, 57] = 3808858755 := by decide +kernel
theorem sum_at : crc [49, 50, 51, 52, 53, 54, 55, 56, 57] = 3808858755 := by decide +kernel

end Go.Proofs.YtkjenddmkmlbeaaDoor.frame
