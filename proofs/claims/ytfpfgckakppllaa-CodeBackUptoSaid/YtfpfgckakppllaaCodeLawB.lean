/- The law CodeBack: for all fields of bulk at most the bound and every place of a cut it returns true and leaves its arguments as they were. -/
import Derived.Test.YtfpfgckakppllaaRows
import Derived.Test.YtfpfgckakppllaaCodeAwake
import Derived.Test.YtfpfgckakppllaaCodeReadK
import Derived.Test.YtfpfgckakppllaaCodeSame
import Derived.Test.YtfpfgckakppllaaCodeCut
import Derived.Test.YtfpfgckakppllaaLift
import Derived.Test.YtfpfgckakppllaaCodeLift
import Derived.Deep.RegionHeld3
import Derived.Deep.Cut
import Derived.JoinedCond
namespace Go.Proofs.Ytfpfgckakppllaa.lawsB
open Go.ChangeShapes Go.WideShapes Go.ChangeAt Go.RowKit
open Go.Proofs.Ytfpfgckakppllaa.kit Go.Proofs.Ytfpfgckakppllaa.cm Go.Proofs.Ytfpfgckakppllaa.code Go.Proofs.Ytfpfgckakppllaa.lift
open Go.WideMaps Go.WideElems
open Go.ChangeMaps (open_string shut_string)
set_option linter.unusedVariables false
set_option linter.constructorNameAsVariable false

theorem flat4 : ∀ (fs : List Fld) (j : Nat) (hj : j < fs.length), (fs.flatMap fcells)[j * 4]? = some (.int .i64 fs[j].kind) ∧ (fs.flatMap fcells)[j * 4 + 1]? = some (.int .i64 fs[j].num) ∧ (fs.flatMap fcells)[j * 4 + 2]? = some (.string fs[j].text) ∧ (fs.flatMap fcells)[j * 4 + 3]? = some (.bool fs[j].is)
  | f :: fs, 0, _ => by simp [fcells]
  | f :: fs, j + 1, hj => by
    have := flat4 fs j (by simpa using hj)
    rw [List.flatMap_cons]
    have e : (fcells f).length = 4 := rfl
    refine ⟨?_, ?_, ?_, ?_⟩
    · rw [List.getElem?_append_right (by rw [e]; omega), e, show (j + 1) * 4 - 4 = j * 4 by omega]; exact this.1
    · rw [List.getElem?_append_right (by rw [e]; omega), e, show (j + 1) * 4 + 1 - 4 = j * 4 + 1 by omega]; exact this.2.1
    · rw [List.getElem?_append_right (by rw [e]; omega), e, show (j + 1) * 4 + 2 - 4 = j * 4 + 2 by omega]; exact this.2.2.1
    · rw [List.getElem?_append_right (by rw [e]; omega), e, show (j + 1) * 4 + 3 - 4 = j * 4 + 3 by omega]; exact this.2.2.2

theorem slf_own {W : World} {B : Nat} {v : Value} {fs : List Fld} (h : OwnF W B v fs) : SlF W v fs := by
  rcases h.2 with ⟨rfl, h0⟩ | ⟨g, cap, cur, rfl, hB, hg, hc, hm, hs, ht⟩
  · obtain rfl : fs = [] := List.eq_nil_of_length_eq_zero h0
    exact ⟨by simp, _, _, rfl, fun h => by simp at h⟩
  · refine ⟨by unfold maxLen at hm; omega, _, _, rfl, fun _ => ⟨g, 0, rfl, (Array.getElem?_eq_some_iff.1 hg).1, fun j hj => ?_⟩⟩
    obtain ⟨h1, h2, h3, h4⟩ := flat4 fs j hj
    have c1 := World.ownsRow.cells h (g := g) rfl _ _ h1
    have c2 := World.ownsRow.cells h (g := g) rfl _ _ h2
    have c3 := World.ownsRow.cells h (g := g) rfl _ _ h3
    have c4 := World.ownsRow.cells h (g := g) rfl _ _ h4
    rw [add_plain'] at c1 c2 c3 c4
    exact ⟨c1, c2, c3, c4⟩

/-- Bytes of the call's own. -/
theorem slb_own {w : World} {B e : Nat} {v : Value} {ns : List Nat} (h : OwnI w B e .u8 v ns) (hl : ns.length ≤ 140737488351232) : SlB w v ns (fun _ => True) := by
  obtain ⟨_, a, cap, rfl, hc⟩ := h.read
  refine ⟨hl, a, cap, rfl, ?_, fun h0 => ?_⟩
  · rcases h.2 with ⟨e1, h0⟩ | ⟨g, cap', cur, e1, hB, hg, hle, _⟩
    · injection e1 with e1 e2 e3; omega
    · injection e1 with e1 e2 e3; omega
  · obtain ⟨b, off, rfl, hcell⟩ := hc h0
    exact ⟨b, off, rfl, trivial, lift.cell?_lt (a := ⟨b, off + 0, none⟩) (hcell 0 h0), hcell⟩

/-- A beginning of bytes. -/
theorem slb_cut {w : World} {a : Option Addr} {cap : Nat} {bs : List Nat} (h : SlB w (.slice a bs.length cap) bs (fun _ => True)) (n : Nat) (hn : n ≤ bs.length) : SlB w (.slice a n cap) (bs.take n) (fun _ => True) := by
  obtain ⟨hl, a', cap', e, hle, hc⟩ := h
  cases e
  have e1 : (bs.take n).length = n := by rw [List.length_take]; omega
  refine ⟨by omega, a, cap, by rw [e1], by omega, fun h0 => ?_⟩
  obtain ⟨b, off, rfl, _, hlt, hcell⟩ := hc (by omega)
  refine ⟨b, off, rfl, trivial, hlt, fun j hj => ?_⟩
  rw [e1] at hj
  rw [hcell j (by omega)]
  simp [List.getD, hj]
theorem slb_below {W W' : World} {v : Value} {bs : List Nat} (h : SlB W v bs (fun _ => True)) (hb : Below W.heap.size W W') : SlB W' v bs (fun _ => True) := by
  obtain ⟨hl, a, cap, rfl, hle, hc⟩ := h
  refine ⟨hl, a, cap, rfl, hle, fun h0 => ?_⟩
  obtain ⟨b, off, rfl, hP, hlt, hcell⟩ := hc h0
  exact ⟨b, off, rfl, hP, Nat.lt_of_lt_of_le hlt hb.size, fun j hj => (hb.cell (p := ⟨b, _, none⟩) hlt).trans (hcell j hj)⟩

theorem numF_lt : ∀ (k x : Nat), ∀ n ∈ numF k x, n < 256
  | 0, _, n, h => by simp [numF] at h
  | k + 1, x, n, h => by
    rw [numF] at h
    split at h
    · simp at h; omega
    · rcases List.mem_cons.1 h with rfl | h
      · omega
      · exact numF_lt k _ n h
theorem highF_lt : ∀ (k x : Nat), ∀ n ∈ highF k x, n < 256
  | 0, _, n, h => by simp [highF] at h
  | k + 1, x, n, h => by
    rw [highF, List.mem_append] at h
    rcases h with h | h
    · exact highF_lt k _ n h
    · simp at h; omega
theorem txtN_lt (s : ByteArray) : ∀ n ∈ txtN s, n < 256 := by
  intro c hc
  obtain ⟨x, _, rfl⟩ := List.mem_map.1 hc
  exact x.toNat_lt
theorem escN_lt : ∀ (l : List Nat), (∀ n ∈ l, n < 256) → ∀ n ∈ escN l, n < 256
  | [], _, n, h => by simp [escN] at h
  | c :: s, hl, n, h => by
    rw [escN, List.mem_append] at h
    rcases h with h | h
    · have := hl c (by simp)
      split at h <;> simp at h <;> omega
    · exact escN_lt s (fun n hn => hl n (by simp [hn])) n h
theorem flagB_lt (b : Bool) : ∀ n ∈ flagB b, n < 256 := by
  intro n h; cases b <;> simp [flagB, flagN] at h <;> omega
theorem bytes_lt (f : Fld) : ∀ n ∈ f.bytes, n < 256 := by
  intro n h
  unfold Fld.bytes at h
  split at h
  · exact numF_lt _ _ n h
  split at h
  · exact numF_lt _ _ n h
  split at h
  · simp [lowB] at h; omega
  split at h
  · rcases List.mem_append.1 h with h | h
    · exact numF_lt _ _ n h
    · exact txtN_lt _ n h
  · exact flagB_lt _ n h
theorem part_lt (f : Fld) : ∀ n ∈ f.part, n < 256 := by
  intro n h
  unfold Fld.part at h
  split at h
  · exact highF_lt _ _ n h
  split at h
  · exact highF_lt _ _ n h
  split at h
  · rcases List.mem_append.1 h with h | h
    · exact escN_lt _ (txtN_lt _) n h
    · simp at h; omega
  · exact flagB_lt _ n h
theorem escN_len : ∀ l : List Nat, (escN l).length ≤ 2 * l.length
  | [] => by simp [escN]
  | c :: s => by have := escN_len s; rw [escN, List.length_append]; split <;> simp <;> omega
theorem part_len (f : Fld) : f.part.length ≤ 2 * f.text.size + 10 := by
  unfold Fld.part
  split
  · rw [highB_len]; omega
  split
  · rw [highB_len]; omega
  split
  · have := escN_len (txtN f.text); have e : (txtN f.text).length = f.text.size := txtN_length _; simp; omega
  · simp [flagB]
theorem bulk_part : ∀ (fs : List Fld), (fs.flatMap Fld.part).length ≤ 2 * bulkF fs
  | [] => by simp
  | f :: fs => by
    have h1 := part_len f
    have h2 := bulk_part fs
    rw [List.flatMap_cons, List.length_append, bulkF]
    omega
theorem bulk_len : ∀ (fs : List Fld), fs.length ≤ bulkF fs
  | [] => by simp
  | f :: fs => by have := bulk_len fs; rw [List.length_cons, bulkF]; omega

theorem sizes_sum (fs : List Fld) (k : Nat) (f : Fld) (hk : k < fs.length) (hf : fs[k] = f) (hfit : f.fit = true) : ((fs.take (k + 1)).flatMap Fld.bytes).length = ((fs.take k).flatMap Fld.bytes).length + (bytesL [f]).length := by
  rw [size_eq _ hfit, take_next hk hf, List.flatMap_append, List.length_append]
  simp

/-- A cut's place. -/
theorem cut_rem (cut : Int) (h0 : -9223372036854775808 ≤ cut) (h1 : cut ≤ 9223372036854775807) (n : Nat) (hn : 0 < n) (hm : n ≤ 140737488351232) : ∃ m : Nat, m < n ∧ (IntKind.u64.wrap cut).tmod (n : Int) = (m : Int) := by
  have hw : 0 ≤ IntKind.u64.wrap cut := by simp only [IntKind.wrap, IntKind.bits, IntKind.signed]; simp; omega
  rw [Int.tmod_eq_emod_of_nonneg hw]
  have hlt : IntKind.u64.wrap cut % (n : Int) < n := Int.emod_lt_of_pos _ (by omega)
  have hge : 0 ≤ IntKind.u64.wrap cut % (n : Int) := Int.emod_nonneg _ (by omega)
  exact ⟨(IntKind.u64.wrap cut % (n : Int)).toNat, by omega, by omega⟩

set_option maxHeartbeats 8000000 in
set_option maxRecDepth 100000 in
theorem walkBack (sl : Value) (fs : List Fld) (cut : Int) (w : World) (hs : SlF w sl fs) (hok : ∀ f ∈ fs, f.Ok) (hbk : bulkF fs ≤ 1048576) (h0 : -9223372036854775808 ≤ cut) (h1 : cut ≤ 9223372036854775807) :
    Calls Try.prog 3 #[sl, .int .i64 cut] w fun e w' => e = .returned (.bool true) ∧ Below w.heap.size w w' := by
  obtain ⟨hl, a, cap, rfl, hc⟩ := id hs
  have HS := Lib.hid hs; have HOK := Lib.hid hok
  have HTX := Lib.hid (fun f (hf : f ∈ fs) => (show f.text.size ≤ 100000000000 by have := bulk_mem hf; omega))
  have HLB := Lib.hid (show (fs.flatMap Fld.bytes).length ≤ 800000000000 by have := bulk_bytes fs; omega)
  have HLP := Lib.hid (show (fs.flatMap Fld.part).length ≤ 100000000000 by have := bulk_part fs; omega)
  have HLN := Lib.hid (show fs.length ≤ 1000000000000 by have := bulk_len fs; omega)
  have HC0 := Lib.hid h0; have HC1 := Lib.hid h1
  obtain ⟨L, hL⟩ : ∃ L, fs.length = L := ⟨_, rfl⟩
  have HL := Lib.hid hL
  rw [hL] at hl ⊢
  clear hs hok hc hL h0 h1 hbk
  go_enter Try.func3, Try.ntmps3
  go_wp2_with fail
  refine (lfit_any _ fs w (by have := HS.out; rwa [HL.out] at this)).mono ?_
  rintro e w1 ⟨rfl, hb1⟩
  have HB1 := Lib.hid hb1
  clear hb1
  by_cases hft : fits fs = true
  · rw [hft]
    have HFT := Lib.hid hft
    have HFit := Lib.hid (fun f (hf : f ∈ fs) => List.all_eq_true.1 hft f hf)
    clear hft
    go_wp2_with fail
    refine (fields_any _ fs w1 (by have := HS.out.below HB1.out; rwa [HL.out] at this) HOK.out HLB.out HTX.out).mono ?_
    rintro e w2 ⟨v2, rfl, ho2, hb2⟩
    have HB2 := Lib.hid (HB1.out.trans (hb2.mono HB1.out.size))
    rw [bytesL, if_pos HFT.out] at ho2
    obtain ⟨va, vn, vc, rfl⟩ := own_slice ho2
    have hn := own_len ho2
    obtain ⟨n, hnn⟩ : ∃ n, (fs.flatMap Fld.bytes).length = n := ⟨_, rfl⟩
    rw [hnn] at hn
    have hn' := hn.symm
    subst hn'
    have HNN := Lib.hid hnn
    have HSB2 := Lib.hid (slb_own ho2 (by have := HLB.out; omega))
    clear ho2 hb2 hnn
    go_wp2_with fail
    refine (kinds_any _ fs w2 (by have := HS.out.below HB2.out; rwa [HL.out] at this) HFit.out HLN.out).mono ?_
    rintro e w3 ⟨v3, rfl, hk3, hb3⟩
    have HB3 := Lib.hid (HB2.out.trans (hb3.mono HB2.out.size))
    have HSB3 := Lib.hid (slb_below HSB2.out hb3)
    have HK3 := Lib.hid hk3
    clear hk3 hb3
    go_wp2_with fail
    refine (Whole_any _ _ (fs.flatMap Fld.bytes) (fs.map fun f => f.kind) fs w3 HSB3.out (fun c hc => by obtain ⟨f, _, h⟩ := List.mem_flatMap.1 hc; exact bytes_lt f c h) HK3.out (by rw [List.length_map]; exact HLN.out) (row_forth fs (fun g hg => ⟨HFit.out g hg, HOK.out g hg⟩))).mono ?_
    rintro e w4 ⟨hb4, v4, rfl, ho4⟩
    have HB4 := Lib.hid (HB3.out.trans (hb4.mono HB3.out.size))
    have HSB4 := Lib.hid (slb_below HSB3.out hb4)
    have HM4 := Lib.hid (slf_own ho4)
    clear hb4 ho4 HSB2 HSB3 HK3
    have hkl : (keyL fs) = fs.flatMap Fld.part := by rw [keyL, if_pos HFT.out]
    have hkt : txtN (strOfNums ((keyL fs).map fun n : Nat => (n : Int))) = fs.flatMap Fld.part := by
      rw [hkl]
      exact txtN_tx _ (fun c hc => by obtain ⟨f, _, h⟩ := List.mem_flatMap.1 hc; exact part_lt f c h)
    go_wp2_with fail
    refine (key_any _ fs w4 (by have := HS.out.below HB4.out; rwa [HL.out] at this) HOK.out (by have := HLP.out; omega) HTX.out).mono ?_
    rintro e w5 ⟨rfl, hb5⟩
    have HB5 := Lib.hid (HB4.out.trans (hb5.mono HB4.out.size))
    have HSB5 := Lib.hid (slb_below HSB4.out hb5)
    have HM5 := Lib.hid (HM4.out.below hb5)
    obtain ⟨ks, hks⟩ : ∃ s, strOfNums ((keyL fs).map fun n : Nat => (n : Int)) = s := ⟨_, rfl⟩
    rw [hks] at hkt ⊢
    have HKT := Lib.hid hkt
    have HKS := Lib.hid (show ks.size ≤ 100000000000 by rw [← txtN_length, hkt]; exact HLP.out)
    clear hb5 hks hkt hkl HSB4 HM4
    go_wp2_with fail
    refine (kinds_any _ fs w5 (by have := HS.out.below HB5.out; rwa [HL.out] at this) HFit.out HLN.out).mono ?_
    rintro e w6 ⟨v6, rfl, hk6, hb6⟩
    have HB6 := Lib.hid (HB5.out.trans (hb6.mono HB5.out.size))
    have HSB6 := Lib.hid (slb_below HSB5.out hb6)
    have HM6 := Lib.hid (HM5.out.below hb6)
    have HK6 := Lib.hid hk6
    clear hb6 hk6 HSB5 HM5
    go_wp2_with fail
    refine (ReadKey_any ks _ (fs.map fun f => f.kind) w6 HKS.out (txtN_lt ks) HK6.out (by rw [List.length_map]; exact HLN.out)).mono ?_
    rw [HKT.out, key_forth fs (fun g hg => ⟨HFit.out g hg, HOK.out g hg⟩)]
    rintro e w7 ⟨hb7, v7, rfl, ho7⟩
    have HB7 := Lib.hid (HB6.out.trans (hb7.mono HB6.out.size))
    have HSB7 := Lib.hid (slb_below HSB6.out hb7)
    have HM7 := Lib.hid (HM6.out.below hb7)
    have HN7 := Lib.hid (slf_own ho7)
    clear hb7 ho7 HSB6 HM6 HK6 HKS HKT
    go_wp2_with fail
    refine (same_any _ _ fs w7 (by have := HS.out.below HB7.out; rwa [HL.out] at this) HM7.out).mono ?_
    rintro e w8 ⟨rfl, hb8⟩
    have HB8 := Lib.hid (HB7.out.trans (hb8.mono HB7.out.size))
    have HSB8 := Lib.hid (slb_below HSB7.out hb8)
    have HN8 := Lib.hid (HN7.out.below hb8)
    clear hb8 HSB7 HN7 HM7
    go_wp2_with fail
    refine (same_any _ _ fs w8 (by have := HS.out.below HB8.out; rwa [HL.out] at this) HN8.out).mono ?_
    rintro e w9 ⟨rfl, hb9⟩
    have HB9 := Lib.hid (HB8.out.trans (hb9.mono HB8.out.size))
    have HSB9 := Lib.hid (slb_below HSB8.out hb9)
    clear hb9 HSB8 HN8
    go_wp2
    go_loopw [10, 11] (fun tv i wr => ∃ k : Nat, k ≤ L ∧ i = .int .i64 k ∧ tv = .int .i64 ((fs.take k).flatMap Fld.bytes).length ∧ Below w9.heap.size w9 wr) (fun _ i _ => L - (intOf i).toNat)
    case atStart => exact ⟨0, by omega, rfl, rfl, Below.refl _ _⟩
    case round =>
      obtain ⟨k, hk, rfl, rfl, hb⟩ := hrel
      have HB := Lib.hid hb
      clear hb
      by_cases hlt : k < L
      · have hlt' : (k : Int) < L := by omega
        have hk0 : (0 : Int) ≤ k := by omega
        have hi : k < fs.length := by rw [HL.out]; exact hlt
        have hs2 : SlF wr (.slice a fs.length cap) fs := HS.out.below (HB9.out.trans (HB.out.mono HB9.out.size))
        obtain ⟨_, a', cap', he, hcell⟩ := hs2
        cases he
        obtain ⟨b, off, rfl, hbl, hcell⟩ := hcell (by omega)
        obtain ⟨c1, c2, c3, c4⟩ := hcell k hi
        obtain ⟨f, hf⟩ : ∃ f, fs[k] = f := ⟨_, rfl⟩
        rw [hf] at c1 c2 c3 c4
        have hmem : f ∈ fs := by rw [← hf]; exact List.getElem_mem _
        have hokf := Lib.hid (HOK.out f hmem); have htxf := Lib.hid (HTX.out f hmem)
        have hsum := sizes_sum fs k f hi hf (HFit.out f hmem)
        have hle : ((fs.take (k + 1)).flatMap Fld.bytes).length ≤ 800000000000 := by
          have h1 : fs.flatMap Fld.bytes = (fs.take (k + 1)).flatMap Fld.bytes ++ (fs.drop (k + 1)).flatMap Fld.bytes := by rw [← List.flatMap_append, List.take_append_drop]
          have h2 := HLB.out
          rw [h1, List.length_append] at h2
          omega
        obtain ⟨q, hq⟩ : ∃ q, ((fs.take k).flatMap Fld.bytes).length = q := ⟨_, rfl⟩
        obtain ⟨z, hz⟩ : ∃ z, (bytesL [f]).length = z := ⟨_, rfl⟩
        rw [hq, hz] at hsum
        rw [hq]
        have HSum := Lib.hid hsum; have HLe := Lib.hid (show q + z ≤ 800000000000 by omega)
        have HZ := Lib.hid hz
        clear hcell hf hmem hsum hle hq hz hbl
        go_wp2_with fail
        refine (Size_any f hokf.out htxf.out wr).mono ?_
        rw [HZ.out]
        rintro e w10 ⟨rfl, hb10⟩
        have HB10 := Lib.hid (HB.out.trans (hb10.mono HB.out.size))
        have hw : True → wrap64 ((q : Int) + (z : Int)) = ((q + z : Nat) : Int) := fun _ => by have := HLe.out; unfold wrap64; omega
        clear hb10 c1 c2 c3 c4
        go_wp2
        go_roundw
        case rel => exact ⟨k + 1, by omega, by go_num, by rw [HSum.out, ← hw trivial], HB10.out⟩
        case measure => simp [intOf]; omega
      · obtain rfl : k = L := by omega
        have htot : ((fs.take k).flatMap Fld.bytes).length = n := by rw [← HL.out, List.take_length]; exact HNN.out
        rw [htot]
        have HSBr := Lib.hid (slb_below HSB9.out HB.out)
        have HBr := Lib.hid (HB9.out.trans (HB.out.mono HB9.out.size))
        have hn1 : ((n : Int) != (n : Int)) = false := by simp
        clear htot HB
        by_cases hn0 : n = 0
        · subst hn0
          go_wp2_with fail
          refine (awake_any _).mono ?_
          rintro e w10 ⟨rfl, hb10⟩
          have HB10 := Lib.hid (HBr.out.trans (hb10.mono HBr.out.size))
          clear hb10
          go_wp2
          go_ret
          exact ⟨rfl, HB10.out⟩
        · have hpos : 0 < n := by omega
          have hnI : ¬ (n : Int) = 0 := by omega
          obtain ⟨m, hm, hrem⟩ := cut_rem cut HC0.out HC1.out n hpos (by have := HLB.out; have := HNN.out; omega)
          have hr' : True → (IntKind.u64.wrap cut).tmod (n : Int) = (m : Int) := fun _ => hrem
          have HRem := Lib.hid hrem; have HMn := Lib.hid hm
          have hwn : True → IntKind.u64.wrap (n : Int) = (n : Int) := fun _ => wrap_nat n (by have := HLB.out; have := HNN.out; omega)
          have hmc : (m : Int) ≤ (vc : Int) := by
            obtain ⟨_, a', cap', he, hle, _⟩ := HSBr.out
            injection he with e1 e2 e3
            have := HNN.out; omega
          have hm0 : (0 : Int) ≤ (m : Int) := by omega
          have hwm : True → wrap64 (m : Int) = (m : Int) := fun _ => by have := HLB.out; have := HNN.out; unfold wrap64; omega
          have hwm2 : True → IntKind.i64.wrap (m : Int) = (m : Int) := fun _ => by have := HLB.out; have := HNN.out; simp [IntKind.wrap, IntKind.bits, IntKind.signed]; omega
          have HCut : Hid (∀ u : World, Below wr.heap.size wr u → SlB u (.slice va m vc) ((fs.flatMap Fld.bytes).take m) (fun _ => True)) := fun u hu => slb_cut (by have := slb_below HSBr.out hu; rwa [← HNN.out] at this) m (by have := HNN.out; have := HMn.out; omega)
          have H8c := Lib.hid (show ∀ c ∈ (fs.flatMap Fld.bytes).take m, c < 256 from fun c hc => by obtain ⟨f, _, h⟩ := List.mem_flatMap.1 (List.mem_of_mem_take hc); exact bytes_lt f c h)
          have HErr := Lib.hid (row_cut fs (fun g hg => ⟨HFit.out g hg, HOK.out g hg⟩) m (by rw [HNN.out]; exact HMn.out))
          clear hrem
          go_upto_region 17 with fail
          go_region_held3 (fun u => Below wr.heap.size wr u)
            (first | exact ⟨rfl, rfl, rfl, Nat.le_refl _, fun _ _ => rfl⟩ | (refine Below.trans (by assumption) (hb.mono (Below.size (by assumption)))))
            (first
              | (go_at_call 9; refine (kinds_any _ fs _ (by have := (HS.out.below HBr.out).below (by assumption); rwa [HL.out] at this) HFit.out HLN.out).mono ?_; rintro e w10 ⟨v10, rfl, hk10, hb⟩; have HK10 := Lib.hid hk10; clear hk10)
              | (go_at_call 13; refine (Read_any _ _ ((fs.flatMap Fld.bytes).take m) (fs.map fun f => f.kind) _ (HCut.out _ (by assumption)) (H8c.out) HK10.out (by rw [List.length_map]; exact HLN.out)).mono ?_; rw [HErr.out]; rintro e w11 ⟨hb, rfl, hne⟩; clear hne))
          rename_i gS
          have HBe := Lib.hid (HBr.out.trans (gS.mono HBr.out.size))
          clear gS hb
          go_wp2_with fail
          refine (awake_any _).mono ?_
          rintro e w12 ⟨rfl, hb12⟩
          have HB12 := Lib.hid (HBe.out.trans (hb12.mono HBe.out.size))
          clear hb12
          go_wp2
          go_ret
          exact ⟨rfl, HB12.out⟩
  · have hft' : fits fs = false := by simpa using hft
    rw [hft']
    have HFT := Lib.hid hft'
    clear hft
    go_wp2_with fail
    refine (fields_any _ fs w1 (by have := HS.out.below HB1.out; rwa [HL.out] at this) HOK.out HLB.out HTX.out).mono ?_
    rintro e w2 ⟨v2, rfl, ho2, hb2⟩
    have HB2 := Lib.hid (HB1.out.trans (hb2.mono HB1.out.size))
    rw [bytesL, if_neg (by rw [HFT.out]; simp)] at ho2
    obtain ⟨va, vn, vc, rfl⟩ := own_slice ho2
    have hn := own_len ho2
    rw [List.length_nil] at hn
    subst hn
    clear ho2 hb2
    go_wp2_with fail
    refine (key_any _ fs w2 (by have := HS.out.below HB2.out; rwa [HL.out] at this) HOK.out (by have := HLP.out; omega) HTX.out).mono ?_
    rintro e w3 ⟨rfl, hb3⟩
    have HB3 := Lib.hid (HB2.out.trans (hb3.mono HB2.out.size))
    rw [show strOfNums ((keyL fs).map fun n : Nat => (n : Int)) = { data := #[] } by rw [keyL, if_neg (by rw [HFT.out]; simp)]; rfl]
    clear hb3
    go_wp2_with fail
    refine (awake_any _).mono ?_
    rintro e w4 ⟨rfl, hb4⟩
    have HB4 := Lib.hid (HB3.out.trans (hb4.mono HB3.out.size))
    clear hb4
    go_wp2
    go_ret
    exact ⟨rfl, HB4.out⟩

theorem own : ownKnob Try.prog.godebug = none := by kernel_rfl
theorem laidOut : laidOutB Try.prog = true := by kernel_rfl

set_option maxRecDepth 100000 in
theorem liftedBack (os : Os) (started : os.Started) (H : Type) (enc : TypeId × Value → H) (F : Stop.Interp) :
    ReturnsInHanded {} Try.checked os 3 .any ((Rows.OpenSpec.upto Rows.codeBackSpec).pre6 enc Try.prog Try.f3 Rows.codeBackUptoRow.domain false) (((Rows.OpenSpec.upto Rows.codeBackSpec).at F).post enc Try.prog Try.f3 false true false false) := by
  refine lawUpto (C := Try.checked) (s := Rows.codeBackSpec) own started (by kernel_rfl) Try.func3
    (OpenSpec.witness (enc := enc) (C := Try.checked) (s := Rows.OpenSpec.upto Rows.codeBackSpec) (k := Rows.uptoSmall) rfl false ⟨#[], #[.slice none 0 0, .int .i64 0], []⟩ 8 (by kernel_rfl) (by kernel_rfl) (by kernel_rfl)
      (x := ([.nil, .lit (.int .i64 0)], [], [])) (by kernel_rfl) rfl (by kernel_rfl)) laidOut (by kernel_rfl) 4 Try.underlying4 (by kernel_rfl) rfl ?_ ?_
  · intro ds hd
    match ds, hd with
    | [_, _], _ => rfl
  · intro W base args ds ps hg hb
    have hA : DataW.TrodAll enc Try.prog W 0 (fun _ => true) true Try.f3.params.toList args.toList ds ps := hg.read
    have hval : ∀ (j : Nat) t v, Try.f3.params[j]? = some t → args[j]? = some v → Value.okWide Try.prog W .any base t v := hg.ok
    rw [Try.params3] at hA hval
    obtain ⟨v0, vs0, d0, ds0, p0, q0, hargs, rfl, rfl, h0, r0⟩ := trodAll_cons hA
    obtain ⟨v1, vs1, d1, ds1, p1, q1, rfl, rfl, rfl, h1, r1⟩ := trodAll_cons r0
    obtain ⟨rfl, rfl, rfl⟩ := trodAll_nil r1
    obtain rfl : args = #[v0, v1] := by cases args; simp_all
    obtain ⟨fs, hs, hok, hbulk⟩ := fields_open (hval 0 22 v0 rfl rfl) h0
    obtain ⟨z, rfl, rfl, rfl, hw⟩ := open_int Try.underlying3 (hval 1 3 v1 rfl rfl) h1
    simp only [Rows.uptoBulkAll] at hb
    have hz : -9223372036854775808 ≤ z ∧ z ≤ 9223372036854775807 := by simpa [Lit.wf, IntKind.min, IntKind.max, IntKind.signed, IntKind.bits] using hw
    exact walkBack v0 fs z W hs hok (by omega) hz.1 hz.2

theorem back_holds : Rows.CodeBackUptoSaid :=
  OpenClaim.holds_of_cond 3 Try.f3 rfl rfl rfl rfl rfl rfl rfl ⟨rfl, rfl, rfl, rfl, rfl⟩ rfl rfl rfl rfl rfl (by kernel_rfl) Try.func3 (by kernel_rfl)
    (of_decide_eq_true (by kernel_rfl)) (by unfold Func.isWrapper; first | (rw [if_pos (by decide +kernel)]; kernel_rfl) | (rw [if_neg (by decide +kernel)]; exact ⟨rfl, rfl⟩))
    (fun os started H enc _ F => liftedBack os started H enc F)

#print axioms back_holds
end Go.Proofs.Ytfpfgckakppllaa.lawsB
