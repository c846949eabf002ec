/- A change as text: its fields, and Encode. -/
import Derived.Test.YtlghbfgkhdnaoaaRows
import Derived.Test.YtlghbfgkhdnaoaaMapsInc
import Derived.Test.YtlghbfgkhdnaoaaRuleApp
import Derived.Test.YtlghbfgkhdnaoaaCodeSize
import Derived.Test.YtlghbfgkhdnaoaaCodeSame
import Derived.Test.YtlghbfgkhdnaoaaCodeForth
namespace Go.Proofs.Ytlghbfgkhdnaoaa.crush
open Go.RowKit
open Go.Proofs.Ytlghbfgkhdnaoaa.kit Go.Proofs.Ytlghbfgkhdnaoaa.own
open Go.Proofs.Ytlghbfgkhdnaoaa.cm (Fld)
open Go.Proofs.Ytlghbfgkhdnaoaa.code (fcells infoFz SlF)
set_option linter.unusedVariables false

def nums (c : IncV) : List Int := [c.kind, c.osd, c.client, c.num, c.pool.size, c.pool.min, c.pool.pgs, c.pool.dom]
def fldN (n : Int) : Fld := ⟨1, n, { data := #[] }, false⟩
def flds (c : IncV) : List Fld := (nums c).map fldN
theorem fcells_len (f : Fld) : (fcells f).length = 4 := rfl
theorem fcells_one (f : Fld) : ∀ v ∈ fcells f, v.oneCell' = true := by
  intro v hv
  simp [fcells] at hv
  rcases hv with rfl | rfl | rfl | rfl <;> rfl
theorem slF_of {w : World} {v : Value} {fs : List Fld} (h : Sl fcells 4 w v fs) : SlF w v fs := by
  obtain ⟨hl, a, cap, rfl, hn, hc⟩ := h
  refine ⟨hl, a, cap, rfl, fun h0 => ?_⟩
  obtain ⟨b, off, rfl, hlt, hcell⟩ := hc h0
  refine ⟨b, off, rfl, hlt, fun j hj => ?_⟩
  have h1 := hcell j hj
  exact ⟨h1 0 _ rfl, h1 1 _ rfl, h1 2 _ rfl, h1 3 _ rfl⟩

set_option maxHeartbeats 16000000 in
set_option maxRecDepth 100000 in
theorem fields_any (c : IncV) (w : World) : Calls Try.prog 27 #[c.val] w fun e w' => ∃ v, e = .returned v ∧ Own fcells 4 93 w' w.heap.size v (flds c) ∧ Below w.heap.size w w' := by
  obtain ⟨k, o, cl, n, a, b, p, d⟩ := c
  unfold IncV.val flds nums
  simp only
  go_enter Try.func27, Try.ntmps27
  go_wp2_with fail
  have hb0 : Below w.heap.size w (((w.alloc (.cells #[.int .i64 k, .int .i64 o, .int .i64 cl, .int .i64 n, .int .i64 a, .int .i64 b, .int .i64 p, .int .i64 d] 35)).alloc (.cells #[.int .i64 a, .int .i64 b, .int .i64 p, .int .i64 d] 33)).alloc (.cells #[.int .i64 k, .int .i64 o, .int .i64 cl, .int .i64 n, .int .i64 a, .int .i64 b, .int .i64 p, .int .i64 d] 91)) :=
    ((below_new w _).alloc (by simp) _).alloc (by simp; omega) _
  have HB0 := Lib.hid hb0
  clear hb0
  generalize (((w.alloc (.cells #[.int .i64 k, .int .i64 o, .int .i64 cl, .int .i64 n, .int .i64 a, .int .i64 b, .int .i64 p, .int .i64 d] 35)).alloc (.cells #[.int .i64 a, .int .i64 b, .int .i64 p, .int .i64 d] 33)).alloc (.cells #[.int .i64 k, .int .i64 o, .int .i64 cl, .int .i64 n, .int .i64 a, .int .i64 b, .int .i64 p, .int .i64 d] 91)) = W0 at HB0 ⊢
  obtain ⟨fl, hfl⟩ : ∃ fl, fl = [fldN k, fldN o, fldN cl, fldN n, fldN a, fldN b, fldN p, fldN d] := ⟨_, rfl⟩
  have HFl := Lib.hid hfl
  clear hfl
  go_loopw [5, 28] (fun v5 vi wr => ∃ i : Nat, i ≤ 8 ∧ vi = .int .i64 i ∧ Own fcells 4 93 wr w.heap.size v5 (fl.take i) ∧ Below w.heap.size w wr) (fun _ v _ => 8 - (intOf v).toNat)
  case atStart => exact ⟨0, by omega, rfl, by rw [List.take_zero]; exact Own.nil _ _ _, HB0.out⟩
  case round =>
    obtain ⟨i, hi, rfl, ho, hbw⟩ := hrel
    have hfl := HFl.out
    subst hfl
    by_cases hlt : i < 8
    · have h8 : i = 0 ∨ i = 1 ∨ i = 2 ∨ i = 3 ∨ i = 4 ∨ i = 5 ∨ i = 6 ∨ i = 7 := by omega
      obtain ⟨a9, c9, rfl⟩ := ho.slice
      have HO := Lib.hid ho; have HB := Lib.hid hbw
      clear ho hbw hi hlt
      rcases h8 with rfl | rfl | rfl | rfl | rfl | rfl | rfl | rfl
      all_goals simp only [List.take_succ_cons, List.take_zero, List.length_cons, List.length_nil, Nat.zero_add, Nat.reduceAdd] at HO ⊢
      · have hix : ∀ w, (Instr.index 91 (.agg #[.int .i64 k, .int .i64 o, .int .i64 cl, .int .i64 n, .int .i64 a, .int .i64 b, .int .i64 p, .int .i64 d]) (.int .i64 0)).run Try.prog w = .ok (.int .i64 k) w := fun w => by kernel_rfl
        have hba := below_new wr (.cells #[.int .i64 1, .int .i64 k, .string { data := #[] }, .bool false] 93)
        have HNew := Lib.hid (sl_new fcells_len wr (fldN k) 93 wr.heap.size rfl)
        have HOa := Lib.hid (HO.out.below hba)
        have HBa := Lib.hid (HB.out.trans (hba.mono HB.out.size))
        clear hba
        go_wp2_with (at_builtin; refine app1Q fcells_len fcells_one (by decide) rfl _ _ 64 rfl w.heap.size 93 _ (by rfl) 40 Try.underlying64 infoFz _ ([] : List Fld) rfl HOa.out _ (fldN k) rfl HNew.out (by simp; unfold maxLen; omega) (by simp) HBa.out.size ?_; intro v10 w10 ho hk _ _; obtain ⟨a10, c10, rfl⟩ := ho.slice; have HO10 := Lib.hid ho; have HB10 := Lib.hid (HBa.out.trans hk.toBelow); clear ho hk)
        go_roundw
        case rel => exact ⟨1, by omega, by go_num, HO10.out, HB10.out⟩
        case measure => simp [intOf]
      · have hix : ∀ w, (Instr.index 91 (.agg #[.int .i64 k, .int .i64 o, .int .i64 cl, .int .i64 n, .int .i64 a, .int .i64 b, .int .i64 p, .int .i64 d]) (.int .i64 1)).run Try.prog w = .ok (.int .i64 o) w := fun w => by kernel_rfl
        have hba := below_new wr (.cells #[.int .i64 1, .int .i64 o, .string { data := #[] }, .bool false] 93)
        have HNew := Lib.hid (sl_new fcells_len wr (fldN o) 93 wr.heap.size rfl)
        have HOa := Lib.hid (HO.out.below hba)
        have HBa := Lib.hid (HB.out.trans (hba.mono HB.out.size))
        clear hba
        go_wp2_with (at_builtin; refine app1Q fcells_len fcells_one (by decide) rfl _ _ 64 rfl w.heap.size 93 _ (by rfl) 40 Try.underlying64 infoFz _ [fldN k] rfl HOa.out _ (fldN o) rfl HNew.out (by simp; unfold maxLen; omega) (by simp) HBa.out.size ?_; intro v10 w10 ho hk _ _; obtain ⟨a10, c10, rfl⟩ := ho.slice; have HO10 := Lib.hid ho; have HB10 := Lib.hid (HBa.out.trans hk.toBelow); clear ho hk)
        go_roundw
        case rel => exact ⟨2, by omega, by go_num, HO10.out, HB10.out⟩
        case measure => simp [intOf]
      · have hix : ∀ w, (Instr.index 91 (.agg #[.int .i64 k, .int .i64 o, .int .i64 cl, .int .i64 n, .int .i64 a, .int .i64 b, .int .i64 p, .int .i64 d]) (.int .i64 2)).run Try.prog w = .ok (.int .i64 cl) w := fun w => by kernel_rfl
        have hba := below_new wr (.cells #[.int .i64 1, .int .i64 cl, .string { data := #[] }, .bool false] 93)
        have HNew := Lib.hid (sl_new fcells_len wr (fldN cl) 93 wr.heap.size rfl)
        have HOa := Lib.hid (HO.out.below hba)
        have HBa := Lib.hid (HB.out.trans (hba.mono HB.out.size))
        clear hba
        go_wp2_with (at_builtin; refine app1Q fcells_len fcells_one (by decide) rfl _ _ 64 rfl w.heap.size 93 _ (by rfl) 40 Try.underlying64 infoFz _ [fldN k, fldN o] rfl HOa.out _ (fldN cl) rfl HNew.out (by simp; unfold maxLen; omega) (by simp) HBa.out.size ?_; intro v10 w10 ho hk _ _; obtain ⟨a10, c10, rfl⟩ := ho.slice; have HO10 := Lib.hid ho; have HB10 := Lib.hid (HBa.out.trans hk.toBelow); clear ho hk)
        go_roundw
        case rel => exact ⟨3, by omega, by go_num, HO10.out, HB10.out⟩
        case measure => simp [intOf]
      · have hix : ∀ w, (Instr.index 91 (.agg #[.int .i64 k, .int .i64 o, .int .i64 cl, .int .i64 n, .int .i64 a, .int .i64 b, .int .i64 p, .int .i64 d]) (.int .i64 3)).run Try.prog w = .ok (.int .i64 n) w := fun w => by kernel_rfl
        have hba := below_new wr (.cells #[.int .i64 1, .int .i64 n, .string { data := #[] }, .bool false] 93)
        have HNew := Lib.hid (sl_new fcells_len wr (fldN n) 93 wr.heap.size rfl)
        have HOa := Lib.hid (HO.out.below hba)
        have HBa := Lib.hid (HB.out.trans (hba.mono HB.out.size))
        clear hba
        go_wp2_with (at_builtin; refine app1Q fcells_len fcells_one (by decide) rfl _ _ 64 rfl w.heap.size 93 _ (by rfl) 40 Try.underlying64 infoFz _ [fldN k, fldN o, fldN cl] rfl HOa.out _ (fldN n) rfl HNew.out (by simp; unfold maxLen; omega) (by simp) HBa.out.size ?_; intro v10 w10 ho hk _ _; obtain ⟨a10, c10, rfl⟩ := ho.slice; have HO10 := Lib.hid ho; have HB10 := Lib.hid (HBa.out.trans hk.toBelow); clear ho hk)
        go_roundw
        case rel => exact ⟨4, by omega, by go_num, HO10.out, HB10.out⟩
        case measure => simp [intOf]
      · have hix : ∀ w, (Instr.index 91 (.agg #[.int .i64 k, .int .i64 o, .int .i64 cl, .int .i64 n, .int .i64 a, .int .i64 b, .int .i64 p, .int .i64 d]) (.int .i64 4)).run Try.prog w = .ok (.int .i64 a) w := fun w => by kernel_rfl
        have hba := below_new wr (.cells #[.int .i64 1, .int .i64 a, .string { data := #[] }, .bool false] 93)
        have HNew := Lib.hid (sl_new fcells_len wr (fldN a) 93 wr.heap.size rfl)
        have HOa := Lib.hid (HO.out.below hba)
        have HBa := Lib.hid (HB.out.trans (hba.mono HB.out.size))
        clear hba
        go_wp2_with (at_builtin; refine app1Q fcells_len fcells_one (by decide) rfl _ _ 64 rfl w.heap.size 93 _ (by rfl) 40 Try.underlying64 infoFz _ [fldN k, fldN o, fldN cl, fldN n] rfl HOa.out _ (fldN a) rfl HNew.out (by simp; unfold maxLen; omega) (by simp) HBa.out.size ?_; intro v10 w10 ho hk _ _; obtain ⟨a10, c10, rfl⟩ := ho.slice; have HO10 := Lib.hid ho; have HB10 := Lib.hid (HBa.out.trans hk.toBelow); clear ho hk)
        go_roundw
        case rel => exact ⟨5, by omega, by go_num, HO10.out, HB10.out⟩
        case measure => simp [intOf]
      · have hix : ∀ w, (Instr.index 91 (.agg #[.int .i64 k, .int .i64 o, .int .i64 cl, .int .i64 n, .int .i64 a, .int .i64 b, .int .i64 p, .int .i64 d]) (.int .i64 5)).run Try.prog w = .ok (.int .i64 b) w := fun w => by kernel_rfl
        have hba := below_new wr (.cells #[.int .i64 1, .int .i64 b, .string { data := #[] }, .bool false] 93)
        have HNew := Lib.hid (sl_new fcells_len wr (fldN b) 93 wr.heap.size rfl)
        have HOa := Lib.hid (HO.out.below hba)
        have HBa := Lib.hid (HB.out.trans (hba.mono HB.out.size))
        clear hba
        go_wp2_with (at_builtin; refine app1Q fcells_len fcells_one (by decide) rfl _ _ 64 rfl w.heap.size 93 _ (by rfl) 40 Try.underlying64 infoFz _ [fldN k, fldN o, fldN cl, fldN n, fldN a] rfl HOa.out _ (fldN b) rfl HNew.out (by simp; unfold maxLen; omega) (by simp) HBa.out.size ?_; intro v10 w10 ho hk _ _; obtain ⟨a10, c10, rfl⟩ := ho.slice; have HO10 := Lib.hid ho; have HB10 := Lib.hid (HBa.out.trans hk.toBelow); clear ho hk)
        go_roundw
        case rel => exact ⟨6, by omega, by go_num, HO10.out, HB10.out⟩
        case measure => simp [intOf]
      · have hix : ∀ w, (Instr.index 91 (.agg #[.int .i64 k, .int .i64 o, .int .i64 cl, .int .i64 n, .int .i64 a, .int .i64 b, .int .i64 p, .int .i64 d]) (.int .i64 6)).run Try.prog w = .ok (.int .i64 p) w := fun w => by kernel_rfl
        have hba := below_new wr (.cells #[.int .i64 1, .int .i64 p, .string { data := #[] }, .bool false] 93)
        have HNew := Lib.hid (sl_new fcells_len wr (fldN p) 93 wr.heap.size rfl)
        have HOa := Lib.hid (HO.out.below hba)
        have HBa := Lib.hid (HB.out.trans (hba.mono HB.out.size))
        clear hba
        go_wp2_with (at_builtin; refine app1Q fcells_len fcells_one (by decide) rfl _ _ 64 rfl w.heap.size 93 _ (by rfl) 40 Try.underlying64 infoFz _ [fldN k, fldN o, fldN cl, fldN n, fldN a, fldN b] rfl HOa.out _ (fldN p) rfl HNew.out (by simp; unfold maxLen; omega) (by simp) HBa.out.size ?_; intro v10 w10 ho hk _ _; obtain ⟨a10, c10, rfl⟩ := ho.slice; have HO10 := Lib.hid ho; have HB10 := Lib.hid (HBa.out.trans hk.toBelow); clear ho hk)
        go_roundw
        case rel => exact ⟨7, by omega, by go_num, HO10.out, HB10.out⟩
        case measure => simp [intOf]
      · have hix : ∀ w, (Instr.index 91 (.agg #[.int .i64 k, .int .i64 o, .int .i64 cl, .int .i64 n, .int .i64 a, .int .i64 b, .int .i64 p, .int .i64 d]) (.int .i64 7)).run Try.prog w = .ok (.int .i64 d) w := fun w => by kernel_rfl
        have hba := below_new wr (.cells #[.int .i64 1, .int .i64 d, .string { data := #[] }, .bool false] 93)
        have HNew := Lib.hid (sl_new fcells_len wr (fldN d) 93 wr.heap.size rfl)
        have HOa := Lib.hid (HO.out.below hba)
        have HBa := Lib.hid (HB.out.trans (hba.mono HB.out.size))
        clear hba
        go_wp2_with (at_builtin; refine app1Q fcells_len fcells_one (by decide) rfl _ _ 64 rfl w.heap.size 93 _ (by rfl) 40 Try.underlying64 infoFz _ [fldN k, fldN o, fldN cl, fldN n, fldN a, fldN b, fldN p] rfl HOa.out _ (fldN d) rfl HNew.out (by simp; unfold maxLen; omega) (by simp) HBa.out.size ?_; intro v10 w10 ho hk _ _; obtain ⟨a10, c10, rfl⟩ := ho.slice; have HO10 := Lib.hid ho; have HB10 := Lib.hid (HBa.out.trans hk.toBelow); clear ho hk)
        go_roundw
        case rel => exact ⟨8, by omega, by go_num, HO10.out, HB10.out⟩
        case measure => simp [intOf]
    · obtain rfl : i = 8 := by omega
      obtain ⟨a9, c9, rfl⟩ := ho.slice
      have HO := Lib.hid ho; have HB := Lib.hid hbw
      clear ho hbw
      go_wp2
      go_ret
      exact ⟨_, rfl, HO.out, HB.out⟩

theorem inR_iff {x a b : Int} : inR x a b = true ↔ a ≤ x ∧ x ≤ b := by unfold inR; simp
theorem osd_eq {c : IncV} (h : c = osdOf c) : c.client = 0 ∧ c.pool = noPool := by
  obtain ⟨k, o, cl, n, a, b, p, d⟩ := c
  simp [osdOf] at h
  exact ⟨h.1, h.2⟩
theorem pool_eq {c : IncV} (h : c = poolOf c) : c.osd = 0 ∧ c.client = 0 ∧ c.num = 0 := by
  obtain ⟨k, o, cl, n, a, b, p, d⟩ := c
  simp [poolOf] at h
  exact ⟨h.1, h.2.1, h.2.2⟩
theorem ban_eq {c : IncV} (h : c = banOfI c) : c.osd = 0 ∧ c.pool = noPool := by
  obtain ⟨k, o, cl, n, a, b, p, d⟩ := c
  simp [banOfI] at h
  exact ⟨h.1, h.2⟩
/-- The numbers of a change that is one. -/
theorem okInc_nums {c : IncV} (h : okInc c = true) : ∀ n ∈ nums c, 0 ≤ n ∧ n ≤ 1073741824 := by
  have hk : 1 ≤ c.kind ∧ c.kind ≤ 6 := by
    unfold okInc at h
    repeat' split at h
    all_goals first | (cases h; done) | omega
  have hall : (0 ≤ c.osd ∧ c.osd ≤ 7) ∧ (0 ≤ c.client ∧ c.client ≤ 3) ∧ (0 ≤ c.num ∧ c.num ≤ 1073741824) ∧ (0 ≤ c.pool.size ∧ c.pool.size ≤ 3) ∧ (0 ≤ c.pool.min ∧ c.pool.min ≤ 3) ∧ (0 ≤ c.pool.pgs ∧ c.pool.pgs ≤ 8) ∧ (0 ≤ c.pool.dom ∧ c.pool.dom ≤ 2) := by
    unfold okInc isOsd okBoot okWeight okId okPool okBan okBoot at h
    split at h
    · simp only [Bool.and_eq_true, decide_eq_true_iff, inR_iff] at h
      obtain ⟨h1, h2⟩ := osd_eq h.1.1
      rw [h1, h2]; simp only [noPool]; omega
    · split at h
      · simp only [Bool.and_eq_true, decide_eq_true_iff, inR_iff] at h
        obtain ⟨h1, h2⟩ := osd_eq h.1.1
        rw [h1, h2]; simp only [noPool]; omega
      · split at h
        · simp only [Bool.and_eq_true, decide_eq_true_iff, inR_iff] at h
          obtain ⟨h1, h2⟩ := osd_eq h.1.1
          rw [h1, h2]; simp only [noPool]; omega
        · split at h
          · simp only [Bool.and_eq_true, decide_eq_true_iff, inR_iff] at h
            obtain ⟨h1, h2, h3⟩ := pool_eq h.1
            rw [h1, h2, h3]; omega
          · split at h
            · simp only [Bool.and_eq_true, decide_eq_true_iff, inR_iff] at h
              obtain ⟨h1, h2⟩ := ban_eq h.1
              rw [h1, h2]; simp only [noPool]; omega
            · cases h
  intro n hn
  simp only [nums, List.mem_cons, List.not_mem_nil, or_false] at hn
  rcases hn with rfl | rfl | rfl | rfl | rfl | rfl | rfl | rfl <;> omega
theorem fldN_ok {n : Int} (h : 0 ≤ n ∧ n ≤ 1073741824) : (fldN n).Ok ∧ (fldN n).fit = true := by
  refine ⟨⟨by show (-9223372036854775808 : Int) ≤ 1; decide, by show (1 : Int) ≤ 9223372036854775807; decide, by show _ ≤ n; omega, by show n ≤ _; omega, by show (0 : Nat) ≤ maxLen; unfold maxLen; omega⟩, ?_⟩
  unfold Fld.fit fldN
  have h0 := h.1
  simp [h0]
theorem flds_ok {c : IncV} (h : okInc c = true) : ∀ f ∈ flds c, f.fit = true ∧ f.Ok := by
  intro f hf
  obtain ⟨n, hn, rfl⟩ := List.mem_map.1 hf
  exact ⟨(fldN_ok (okInc_nums h n hn)).2, (fldN_ok (okInc_nums h n hn)).1⟩
theorem fldN_bytes (n : Int) : (fldN n).bytes = Go.Proofs.Ytlghbfgkhdnaoaa.cm.numB n.toNat := by unfold Fld.bytes fldN; rw [if_pos rfl]
theorem flds_len (c : IncV) : ((flds c).flatMap Fld.bytes).length ≤ 80 := by
  have h : ∀ l : List Int, ((l.map fldN).flatMap Fld.bytes).length ≤ l.length * 10 := by
    intro l
    induction l with
    | nil => simp
    | cons x r ih =>
      rw [List.map_cons, List.flatMap_cons, List.length_append, fldN_bytes]
      have := Go.Proofs.Ytlghbfgkhdnaoaa.cm.numB_len x.toNat
      simp only [List.length_cons]
      omega
  have := h (nums c)
  simp only [nums, List.length_cons, List.length_nil] at this
  exact this
/-- A change's text. -/
def incT (c : IncV) : ByteArray := strOfNums (((flds c).flatMap Fld.bytes).map fun n : Nat => (n : Int))
def encE (c : IncV) : ByteArray := if okInc c then incT c else { data := #[] }

set_option maxHeartbeats 8000000 in
theorem Encode_any (c : IncV) (w : World) : Calls Try.prog 12 #[c.val] w fun e w' => e = .returned (.string (encE c)) ∧ Below w.heap.size w w' := by
  have HI := Lib.hid (fun w => Inc_any c w)
  have HF := Lib.hid (fun w => fields_any c w)
  have HX := Lib.hid (ibx_new w c)
  have HB := Lib.hid (below_new w (.cells #[.int .i64 c.kind, .int .i64 c.osd, .int .i64 c.client, .int .i64 c.num, .int .i64 c.pool.size, .int .i64 c.pool.min, .int .i64 c.pool.pgs, .int .i64 c.pool.dom] 35))
  have HE := Lib.hid (show ∀ q, okInc c = q → (q = true → encE c = strOfNums ((Go.Proofs.Ytlghbfgkhdnaoaa.cm.bytesL (flds c)).map fun n : Nat => (n : Int))) ∧ (q = false → encE c = { data := #[] }) from fun q hq => by
    subst hq
    refine ⟨fun h => ?_, fun h => by unfold encE; rw [h]; rfl⟩
    have hf : Go.Proofs.Ytlghbfgkhdnaoaa.cm.fits (flds c) = true := List.all_eq_true.2 fun f hf => (flds_ok h f hf).1
    unfold encE incT Go.Proofs.Ytlghbfgkhdnaoaa.cm.bytesL
    rw [if_pos h, if_pos hf])
  have HC := Lib.hid (fun (h : okInc c = true) (sl : Value) (w : World) (hs : SlF w sl (flds c)) => Go.Proofs.Ytlghbfgkhdnaoaa.code.Fields_any sl (flds c) w hs (fun f hf => (flds_ok h f hf).2) (by have := flds_len c; omega) (fun f hf => by obtain ⟨n, _, rfl⟩ := List.mem_map.1 hf; show (0 : Nat) ≤ _; omega))
  obtain ⟨q, hq⟩ : ∃ q, okInc c = q := ⟨_, rfl⟩
  have HE2 := Lib.hid (HE.out q hq)
  rw [hq] at HI
  simp only [hq] at HC
  generalize encE c = ee at HE2 ⊢
  generalize flds c = fl at HF HE2 HC
  unfold IncV.val at HI HF ⊢
  clear HE hq
  go_enter Try.func12, Try.ntmps12
  cases q with
  | false =>
    have he := Lib.hid (HE2.out.2 rfl)
    go_wp2_with (go_at_call 13; refine (HI.out _).mono ?_; rintro e w5 ⟨rfl, hb⟩; have HB5 := Lib.hid (HB.out.trans (hb.mono HB.out.size)); clear hb)
    go_ret
    exact ⟨by rw [he.out]; rfl, HB5.out⟩
  | true =>
    have he := Lib.hid (HE2.out.1 rfl)
    go_wp2_with (first
      | (go_at_call 13; refine (HI.out _).mono ?_; rintro e w5 ⟨rfl, hb⟩; have HB5 := Lib.hid (HB.out.trans (hb.mono HB.out.size)); obtain ⟨c0, c1, c2, c3, c4, c5, c6, c7⟩ := (HX.out.keep hb).cells; clear hb)
      | (go_at_call 27; refine (HF.out _).mono ?_; rintro e w6 ⟨v6, rfl, ho, hb⟩; obtain ⟨a6, c6', rfl⟩ := ho.slice; have HB6 := Lib.hid (HB5.out.trans (hb.mono HB5.out.size)); have HO6 := Lib.hid (ho.read fcells_len); clear hb ho)
      | (go_at_call 26; refine (HC.out (by first | trivial | rfl) _ w6 (slF_of HO6.out)).mono ?_; rintro e w7 ⟨v7, rfl, ho, hb⟩; have HB7 := Lib.hid (HB6.out.trans (hb.mono HB6.out.size)); have hconv := conv_bytes (P := Try.prog) 62 5 9 Try.underlying62 Try.underlying5 Try.underlying9 ho.read; clear hb ho))
    go_ret
    exact ⟨by rw [he.out]; rfl, HB7.out⟩
end Go.Proofs.Ytlghbfgkhdnaoaa.crush
