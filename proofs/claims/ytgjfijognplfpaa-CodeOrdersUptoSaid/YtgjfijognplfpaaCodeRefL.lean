/- The document's own rows of fields as bytes; sizes. -/
import Derived.Test.YtgjfijognplfpaaRows
import Derived.Test.YtgjfijognplfpaaCodeRefF
import Derived.Test.YtgjfijognplfpaaCodeWrite
import Derived.IntWalk
import Derived.BigQuiet
namespace Go.Proofs.Ytgjfijognplfpaa.code
open Go.RowKit
open Go.Proofs.Ytgjfijognplfpaa.kit Go.Proofs.Ytgjfijognplfpaa.cm
set_option linter.unusedVariables false

theorem own_len {W : World} {B e : Nat} {k : IntKind} {a : Option Addr} {n c : Nat} {ns : List Nat} (h : OwnI W B e k (.slice a n c) ns) : n = ns.length := by
  rcases h.2 with ⟨h1, h2⟩ | ⟨g, cap, cur, h1, _⟩
  · cases h1; simpa using h2.symm
  · cases h1; simp

set_option maxHeartbeats 4000000 in
set_option maxRecDepth 100000 in
theorem rfits_any (sl : Value) (fs : List Fld) (w : World) (hs : SlF w sl fs) :
    Calls Try.prog 30 #[sl] w fun e w' => e = .returned (.bool (fits fs)) ∧ Below w.heap.size w w' := by
  obtain ⟨hl, a, cap, rfl, hc⟩ := id hs
  have HS := Lib.hid hs
  obtain ⟨L, hL⟩ : ∃ L, fs.length = L := ⟨_, rfl⟩
  have HL := Lib.hid hL
  rw [hL] at hl ⊢
  clear hs hc hL
  go_enter Try.func30, Try.ntmps30
  go_wp2
  go_loopw [3] (fun i wr => ∃ k : Nat, k ≤ L ∧ i = .int .i64 k ∧ (fs.take k).all Fld.fit = true ∧ Below w.heap.size w wr) (fun i _ => L - (intOf i).toNat)
  case atStart => exact ⟨0, by omega, rfl, rfl, Below.refl _ _⟩
  case round =>
    obtain ⟨k, hk, rfl, hfit, hb⟩ := hrel
    have HB := Lib.hid hb; have HFit := Lib.hid hfit
    clear hb hfit
    by_cases hlt : k < L
    · have hlt' : (k : Int) < L := by omega
      have hi : k < fs.length := by rw [HL.out]; exact hlt
      have hs2 : SlF wr (.slice a fs.length cap) fs := HS.out.below HB.out
      obtain ⟨_, a', cap', he, hcell⟩ := hs2
      cases he
      obtain ⟨b, off, rfl, hbl, hcell⟩ := hcell (by omega)
      obtain ⟨h1, h2, h3, h4⟩ := hcell k hi
      obtain ⟨f, hf⟩ : ∃ f, fs[k] = f := ⟨_, rfl⟩
      rw [hf] at h1 h2 h3 h4
      have HF := Lib.hid hf
      clear hcell hf
      go_wp2_with fail
      refine (rfit_any f wr).mono ?_
      rintro e w2 ⟨rfl, hb2⟩
      have HB2 := Lib.hid (HB.out.trans (hb2.mono HB.out.size))
      clear hb2 h1 h2 h3 h4
      by_cases hft : f.fit = true
      · rw [hft]
        go_wp2
        go_roundw
        case rel => exact ⟨k + 1, by omega, by go_num, by rw [take_next (by rw [HL.out]; exact hlt) HF.out, List.all_append, HFit.out]; simp [hft], HB2.out⟩
        case measure => simp [intOf]; omega
      · have hft' : f.fit = false := by simpa using hft
        rw [hft']
        go_wp2
        go_ret
        refine ⟨?_, HB2.out⟩
        have : fits fs = false := by
          have hm : f ∈ fs := by rw [← HF.out]; exact List.getElem_mem _
          cases hq : fits fs with
          | false => rfl
          | true => exact absurd (List.all_eq_true.1 hq f hm) (by simp [hft'])
        rw [this]; rfl
    · obtain rfl : k = L := by omega
      go_wp2
      go_ret
      refine ⟨?_, HB.out⟩
      have h := HFit.out
      rw [← HL.out, List.take_length] at h
      rw [show fits fs = true from h]; rfl

set_option maxHeartbeats 4000000 in
set_option maxRecDepth 100000 in
theorem rFields_any (sl : Value) (fs : List Fld) (w : World) (hs : SlF w sl fs) (hok : ∀ f ∈ fs, f.Ok) (hlen : (fs.flatMap Fld.bytes).length ≤ 800000000000) (htx : ∀ f ∈ fs, f.text.size ≤ 100000000000) :
    Calls Try.prog 13 #[sl] w fun e w' => ∃ v, e = .returned v ∧ OwnI w' w.heap.size 5 .u8 v (bytesL fs) ∧ Below w.heap.size w w' := by
  obtain ⟨hl, a, cap, rfl, hc⟩ := id hs
  have HS := Lib.hid hs; have HOK := Lib.hid hok; have HTX := Lib.hid htx
  obtain ⟨L, hL⟩ : ∃ L, fs.length = L := ⟨_, rfl⟩
  have HL := Lib.hid hL
  rw [hL] at hl ⊢
  clear hs hok htx hc hL
  go_enter Try.func13, Try.ntmps13
  go_wp2_with fail
  refine (rfits_any _ fs w (by have := HS.out; rwa [HL.out] at this)).mono ?_
  rintro e w1 ⟨rfl, hb1⟩
  have HB1 := Lib.hid hb1
  clear hb1
  by_cases hft : fits fs = true
  · rw [hft]
    have HFT := Lib.hid hft
    clear hft
    go_wp2
    go_loopw [3, 4] (fun v' i wr => ∃ k : Nat, k ≤ L ∧ i = .int .i64 k ∧ OwnI wr w.heap.size 5 .u8 v' ((fs.take k).flatMap Fld.bytes) ∧ Below w.heap.size w wr) (fun _ i _ => L - (intOf i).toNat)
    case atStart => exact ⟨0, by omega, rfl, OwnI.nil _ _ _ _, HB1.out⟩
    case round =>
      obtain ⟨k, hk, rfl, ho, hb⟩ := hrel
      have HB := Lib.hid hb; have HO := Lib.hid ho
      clear ho hb
      by_cases hlt : k < L
      · have hlt' : (k : Int) < L := by omega
        have hi : k < fs.length := by rw [HL.out]; exact hlt
        have hs2 : SlF wr (.slice a fs.length cap) fs := HS.out.below HB.out
        obtain ⟨_, a', cap', he, hcell⟩ := hs2
        cases he
        obtain ⟨b, off, rfl, hbl, hcell⟩ := hcell (by omega)
        obtain ⟨h1, h2, h3, h4⟩ := hcell k hi
        obtain ⟨f, hf⟩ : ∃ f, fs[k] = f := ⟨_, rfl⟩
        rw [hf] at h1 h2 h3 h4
        have hmem : f ∈ fs := by rw [← hf]; exact List.getElem_mem _
        have hokf := Lib.hid (HOK.out f hmem); have htxf := Lib.hid (HTX.out f hmem)
        have hff := Lib.hid (show f.fit = true from List.all_eq_true.1 HFT.out f hmem)
        have HLF := Lib.hid (show ((fs.take k).flatMap Fld.bytes).length ≤ 900000000000 by
          have h1 : fs.flatMap Fld.bytes = (fs.take k).flatMap Fld.bytes ++ (fs.drop k).flatMap Fld.bytes := by rw [← List.flatMap_append, List.take_append_drop]
          rw [h1, List.length_append] at hlen
          omega)
        have HF := Lib.hid hf
        clear hcell hf hmem
        go_wp2_with fail
        refine (rone_any f hokf.out hff.out htxf.out w.heap.size _ _ wr HO.out HB.out.size HLF.out).mono ?_
        rintro e w2 ⟨⟨v2, rfl, ho2⟩, hk2⟩
        have HO2 := Lib.hid ho2; have HB2 := Lib.hid (HB.out.trans hk2.toBelow)
        clear ho2 hk2 h1 h2 h3 h4
        go_wp2
        go_roundw
        case rel => exact ⟨k + 1, by omega, by go_num, by rw [take_next (by rw [HL.out]; exact hlt) HF.out, List.flatMap_append]; simpa using HO2.out, HB2.out⟩
        case measure => simp [intOf]; omega
      · obtain rfl : k = L := by omega
        go_wp2
        go_ret
        refine ⟨_, rfl, ?_, HB.out⟩
        rw [bytesL, if_pos HFT.out]
        have h := HO.out
        rw [← HL.out, List.take_length] at h
        exact h
  · have hft' : fits fs = false := by simpa using hft
    rw [hft']
    go_wp2
    go_ret
    refine ⟨_, rfl, ?_, HB1.out⟩
    rw [bytesL, if_neg hft]
    exact OwnI.nil _ _ _ _

set_option maxHeartbeats 4000000 in
set_option maxRecDepth 100000 in
theorem Fields_any (sl : Value) (fs : List Fld) (w : World) (hs : SlF w sl fs) (hok : ∀ f ∈ fs, f.Ok) (hlen : (fs.flatMap Fld.bytes).length ≤ 800000000000) (htx : ∀ f ∈ fs, f.text.size ≤ 100000000000) :
    Calls Try.prog 12 #[sl] w fun e w' => ∃ v, e = .returned v ∧ OwnI w' w.heap.size 5 .u8 v (bytesL fs) ∧ Below w.heap.size w w' := by
  go_enter Try.func12, Try.ntmps12
  go_wp2_with fail
  refine (write_putField sl fs w hs hok hlen htx).mono ?_
  rintro e w1 ⟨v, rfl, ho, hb⟩
  have HO := Lib.hid ho; have HB := Lib.hid hb
  clear ho hb
  go_wp2
  go_ret
  exact ⟨_, rfl, HO.out, HB.out⟩

set_option maxHeartbeats 4000000 in
set_option maxRecDepth 100000 in
theorem rSize_any (f : Fld) (hok : f.Ok) (ht : f.text.size ≤ 100000000000) (w : World) :
    Calls Try.prog 11 #[f.val] w fun e w' => e = .returned (.int .i64 (bytesL [f]).length) ∧ Below w.heap.size w w' := by
  have hlen : f.bytes.length ≤ 200000000000 := by
    unfold Fld.bytes
    have h1 := numB_len f.num.toNat; have h2 := numB_len (zig f.num); have h3 := numB_len f.text.size
    split
    · omega
    split
    · omega
    split
    · simp [lowB]
    split
    · simp [txtN]; omega
    · simp [flagB]
  obtain ⟨k, n, t, b⟩ := f
  unfold Fld.val
  go_enter Try.func11, Try.ntmps11
  go_wp2_with fail
  refine (rFields_any _ [⟨k, n, t, b⟩] _ ?_ ?_ ?_ ?_).mono ?_
  case refine_1 =>
    refine ⟨by simp, _, 1, rfl, fun _ => ⟨w.heap.size + 1, 0, rfl, by simp, ?_⟩⟩
    intro j hj
    obtain rfl : j = 0 := by simpa using hj
    have h := heap_alloc_last (w.alloc (Obj.cells #[Value.int IntKind.i64 k, Value.int IntKind.i64 n, Value.string t, Value.bool b] 25)) (Obj.cells #[Value.int IntKind.i64 k, Value.int IntKind.i64 n, Value.string t, Value.bool b] 25)
    rw [World.size_alloc] at h
    refine ⟨?_, ?_, ?_, ?_⟩ <;> (simp only [World.cell?, h]; rfl)
  case refine_2 => intro f hf; obtain rfl := List.mem_singleton.1 hf; exact hok
  case refine_3 => simp; omega
  case refine_4 => intro f hf; obtain rfl := List.mem_singleton.1 hf; exact ht
  case refine_5 =>
    rintro e w1 ⟨v, rfl, ho, hb⟩
    obtain ⟨va, vn, vc, rfl⟩ := own_slice ho
    have hn : vn = (bytesL [⟨k, n, t, b⟩]).length := own_len ho
    subst hn
    have HB := Lib.hid ((((Below.refl w.heap.size w).alloc (Nat.le_refl _) (Obj.cells #[Value.int IntKind.i64 k, Value.int IntKind.i64 n, Value.string t, Value.bool b] 25)).alloc (by simp) (Obj.cells #[Value.int IntKind.i64 k, Value.int IntKind.i64 n, Value.string t, Value.bool b] 25)).trans (hb.mono (by simp; omega)))
    clear ho hb
    go_wp2
    go_ret
    exact ⟨rfl, HB.out⟩

theorem boxed4 {w w1 : World} {k n : Int} {t : ByteArray} {b : Bool} {T : TypeId} (hb : Below (w.alloc (Obj.cells #[Value.int .i64 k, Value.int .i64 n, Value.string t, Value.bool b] T)).heap.size (w.alloc (Obj.cells #[Value.int .i64 k, Value.int .i64 n, Value.string t, Value.bool b] T)) w1) :
    w1.cell? ⟨w.heap.size, 0, none⟩ = some (.int .i64 k) ∧ w1.cell? ⟨w.heap.size, 1, none⟩ = some (.int .i64 n) ∧ w1.cell? ⟨w.heap.size, 2, none⟩ = some (.string t) ∧ w1.cell? ⟨w.heap.size, 3, none⟩ = some (.bool b) ∧ Below w.heap.size w w1 := by
  have h := (hb.block w.heap.size (by simp)).trans (heap_alloc_last w (Obj.cells #[Value.int .i64 k, Value.int .i64 n, Value.string t, Value.bool b] T))
  have hb' := ((Below.refl w.heap.size w).alloc (Nat.le_refl _) (Obj.cells #[Value.int .i64 k, Value.int .i64 n, Value.string t, Value.bool b] T)).trans (hb.mono (by simp))
  refine ⟨?_, ?_, ?_, ?_, hb'⟩ <;> (simp only [World.cell?, h]; rfl)

theorem width_q (x : Nat) (hx : x < 18446744073709551616) (w : World) : Calls Try.prog 26 #[.int .u64 x] w fun e w' => e = .returned (.int .i64 ((numB x).length : Nat)) ∧ w' = w :=
  (width_any x hx w).mono fun _ _ h => ⟨h.1, h.2.symm⟩

theorem size_eq (f : Fld) (hf : f.fit = true) : (bytesL [f]).length = f.bytes.length := by simp [bytesL, fits, hf]

set_option maxHeartbeats 4000000 in
set_option maxRecDepth 100000 in
theorem Size_any (f : Fld) (hok : f.Ok) (ht : f.text.size ≤ 100000000000) (w : World) :
    Calls Try.prog 10 #[f.val] w fun e w' => e = .returned (.int .i64 (bytesL [f]).length) ∧ Below w.heap.size w w' := by
  by_cases hfit : f.fit = true
  · have hsz := size_eq f hfit
    obtain ⟨k, n, t, b⟩ := f
    obtain ⟨k0, k1, n0, n1, htm⟩ := hok
    simp only at k0 k1 n0 n1 ht htm
    have HF := Lib.hid hfit
    simp only [Fld.fit] at hfit
    unfold Fld.val
    by_cases h1 : k = 1
    · subst h1
      simp at hfit
      obtain ⟨x, rfl⟩ : ∃ x : Nat, n = x := ⟨n.toNat, by omega⟩
      have hw : True → IntKind.u64.wrap (x : Int) = (x : Int) := fun _ => wrap_nat x (by omega)
      have HX := Lib.hid (show x < 18446744073709551616 by omega)
      have HS := Lib.hid hsz
      clear n0 n1 hfit k0 k1 hsz ht htm
      go_enter Try.func10, Try.ntmps10
      go_wp2_with fail
      refine (fit_any ⟨1, x, t, b⟩ _).mono ?_
      rintro e w1 ⟨rfl, hb⟩
      rw [HF.out]
      obtain ⟨c0, c1, c2, c3, hb⟩ := boxed4 hb
      have HB := Lib.hid hb
      clear hb
      go_wp2_with fail
      refine (width_any x HX.out w1).mono ?_
      rintro e w2 ⟨rfl, rfl⟩
      go_wp2
      go_ret
      exact ⟨by rw [HS.out]; rfl, HB.out⟩
    by_cases h2 : k = 2
    · subst h2
      have HN0 := Lib.hid n0; have HN1 := Lib.hid n1
      have HS := Lib.hid hsz
      clear n0 n1 hfit k0 k1 hsz ht htm h1
      go_enter Try.func10, Try.ntmps10
      go_wp2_with fail
      refine (fit_any ⟨2, n, t, b⟩ _).mono ?_
      rintro e w1 ⟨rfl, hb⟩
      rw [HF.out]
      obtain ⟨c0, c1, c2, c3, hb⟩ := boxed4 hb
      have HB := Lib.hid hb
      clear hb
      go_wp2_with fail
      refine (fold_any n HN0.out HN1.out w1).mono ?_
      rintro e w2 ⟨rfl, rfl⟩
      go_wp2_with fail
      refine (width_any (zig n) (zig_lt n HN0.out HN1.out) w1).mono ?_
      rintro e w2 ⟨rfl, rfl⟩
      go_wp2
      go_ret
      exact ⟨by rw [HS.out]; rfl, HB.out⟩
    by_cases h3 : k = 3
    · subst h3
      have HS := Lib.hid hsz
      clear n0 n1 hfit k0 k1 hsz ht htm h1 h2
      go_enter Try.func10, Try.ntmps10
      go_wp2_with fail
      refine (fit_any ⟨3, n, t, b⟩ _).mono ?_
      rintro e w1 ⟨rfl, hb⟩
      rw [HF.out]
      obtain ⟨c0, c1, c2, c3, hb⟩ := boxed4 hb
      have HB := Lib.hid hb
      clear hb
      go_wp2
      go_ret
      exact ⟨by rw [HS.out]; rfl, HB.out⟩
    by_cases h4 : k = 4
    · subst h4
      have HS := Lib.hid hsz
      have hw : True → IntKind.u64.wrap (t.size : Int) = (t.size : Int) := fun _ => wrap_nat t.size (by omega)
      have HT := Lib.hid (show t.size < 18446744073709551616 by omega)
      have hnb := numB_len t.size
      obtain ⟨M, hM⟩ : ∃ M, (numB t.size).length = M := ⟨_, rfl⟩
      rw [hM] at hnb
      have HT2 := Lib.hid ht
      have HM := Lib.hid hM
      clear n0 n1 hfit k0 k1 hsz htm h1 h2 h3 hM ht
      go_enter Try.func10, Try.ntmps10
      go_wp2_with fail
      refine (fit_any ⟨4, n, t, b⟩ _).mono ?_
      rintro e w1 ⟨rfl, hb⟩
      rw [HF.out]
      obtain ⟨c0, c1, c2, c3, hb⟩ := boxed4 hb
      have HB := Lib.hid hb
      clear hb
      go_wp2_with fail
      go_quiet ((go_at_call 26; exact Calls.quiet_of_same (width_q t.size HT.out _)))
      go_wp2
      go_ret
      refine ⟨?_, ?_⟩
      · rw [HS.out]
        refine ret_int ?_
        have ht := HT2.out
        have e : (Fld.mk 4 n t b).bytes.length = M + t.size := by simp [Fld.bytes, txtN, HM.out]
        show wrap64 (((numB t.size).length : Nat) + (t.size : Int)) = _
        rw [HM.out, e]
        unfold wrap64
        omega
      · exact HB.out.drewN' nq
    have h5 : k = 5 := by
      rcases Decidable.em (k = 5) with h | h
      · exact h
      · simp [h1, h2, h3, h4, h] at hfit
    subst h5
    have HS := Lib.hid hsz
    clear n0 n1 hfit k0 k1 hsz ht htm h1 h2 h3 h4
    go_enter Try.func10, Try.ntmps10
    go_wp2_with fail
    refine (fit_any ⟨5, n, t, b⟩ _).mono ?_
    rintro e w1 ⟨rfl, hb⟩
    rw [HF.out]
    obtain ⟨c0, c1, c2, c3, hb⟩ := boxed4 hb
    have HB := Lib.hid hb
    clear hb
    go_wp2
    go_ret
    exact ⟨by rw [HS.out]; rfl, HB.out⟩
  · have h0 : (bytesL [f]).length = 0 := by simp [bytesL, fits, hfit]
    rw [h0]
    obtain ⟨k, n, t, b⟩ := f
    have HF := Lib.hid (show (Fld.mk k n t b).fit = false by simpa using hfit)
    clear hok ht h0 hfit
    unfold Fld.val
    go_enter Try.func10, Try.ntmps10
    go_wp2_with fail
    refine (fit_any ⟨k, n, t, b⟩ _).mono ?_
    rintro e w1 ⟨rfl, hb⟩
    rw [HF.out]
    have HB := Lib.hid (((Below.refl w.heap.size w).alloc (Nat.le_refl _) (Obj.cells #[Value.int IntKind.i64 k, Value.int IntKind.i64 n, Value.string t, Value.bool b] 25)).trans (hb.mono (by simp)))
    clear hb
    go_wp2
    go_ret
    exact ⟨rfl, HB.out⟩

end Go.Proofs.Ytgjfijognplfpaa.code
