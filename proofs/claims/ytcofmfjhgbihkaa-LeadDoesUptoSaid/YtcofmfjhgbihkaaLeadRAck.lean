/- The document's Ack. -/
import Derived.Test.YtcofmfjhgbihkaaRows
import Derived.Test.YtcofmfjhgbihkaaLeadRCopy
import Derived.Test.YtcofmfjhgbihkaaLeadHear
import Derived.Test.YtcofmfjhgbihkaaLeadEq
namespace Go.Proofs.Ytcofmfjhgbihkaa.crush
open Go.RowKit
open Go.Proofs.Ytcofmfjhgbihkaa.kit Go.Proofs.Ytcofmfjhgbihkaa.own
set_option linter.unusedVariables false
set_option linter.unusedSimpArgs false

/-- The rows of a leader that came in have room for themselves. -/
def LdQ (v : Value) (l : LeadV) : Prop := ∃ sa sc ta tc, v = l.agg (.slice sa l.ps.length sc) (.slice ta l.ak.length tc) ∧ l.ps.length ≤ sc ∧ l.ak.length ≤ tc
theorem sl_takeL {α : Type} {enc : α → List Value} {k : Nat} {w : World} {ax : Addr} {cx : Nat} {xs : List α} (h : Sl enc k w (.slice (some ax) xs.length cx) xs) (i : Nat) (hi : i ≤ xs.length) : Sl enc k w (.slice (some ax) i cx) (xs.take i) := by
  obtain ⟨h1, a, c, he, h2, h3⟩ := h
  have hlen : (xs.take i).length = i := by rw [List.length_take]; omega
  refine ⟨by rw [hlen]; exact Nat.le_trans hi h1, some ax, cx, by rw [hlen], (by intro e; cases e), fun hp => ?_⟩
  rw [hlen] at hp
  obtain ⟨b, off, ha, hb, hr⟩ := h3 (by omega)
  cases he
  refine ⟨b, off, ha, hb, fun j hj => ?_⟩
  rw [List.getElem_take]
  exact hr j (by omega)
theorem sl_dropL {α : Type} {enc : α → List Value} {k : Nat} {w : World} {ax : Addr} {cx : Nat} {xs : List α} (h : Sl enc k w (.slice (some ax) xs.length cx) xs) (i : Nat) (hi : i ≤ xs.length) (A : Addr) (c2 : Nat) (hA : i < xs.length → A = ax.add (i * k)) : Sl enc k w (.slice (some A) (xs.length - i) c2) (xs.drop i) := by
  obtain ⟨h1, a, c, he, h2, h3⟩ := h
  have hlen : (xs.drop i).length = xs.length - i := List.length_drop ..
  refine ⟨by rw [hlen]; omega, some A, c2, by rw [hlen], (by intro e; cases e), fun hp => ?_⟩
  rw [hlen] at hp
  obtain ⟨b, o, ha, hb, hr⟩ := h3 (by omega)
  cases he
  cases ha
  refine ⟨_, o + i * k, by rw [hA (by omega), add_plain'], hb, fun j hj => ?_⟩
  rw [List.getElem_drop]
  have := hr (i + j) (by rw [List.length_drop] at hj; omega)
  rw [Nat.add_mul, ← Nat.add_assoc] at this
  exact this
theorem sl_oneL {α : Type} {enc : α → List Value} {k : Nat} (hk : ∀ x, (enc x).length = k) {W : World} {N T : Nat} {x : α} (h : W.heap[N]? = some (.cells (enc x).toArray T (0, 0))) : Sl enc k W (.slice (some ⟨N, 0, none⟩) 1 1) [x] := by
  refine ⟨by simp, _, _, rfl, fun h => (by cases h), fun _ => ⟨N, 0, rfl, (Array.getElem?_eq_some_iff.1 h).1, fun j hj t v hv => ?_⟩⟩
  have hj0 : j = 0 := by simp at hj; omega
  subst hj0
  simp only [World.cell?, h]
  simpa using hv

set_option maxHeartbeats 32000000 in
set_option maxRecDepth 100000 in
theorem rAck_any (v : Value) (l : LeadV) (n : Int) (w : World) (h : LdR w v l) (hq : LdQ v l) (hl : l.Small) : Calls Try.prog 19 #[v, .int .i64 n] w (LdS w (l.ack n)) := by
  have HC := Lib.hid (fun u (hu : Below w.heap.size w u) => rCopyL_any v l u (h.keep hu) hl)
  obtain ⟨sa, sc, ta, tc, rfl, hcs, hct⟩ := hq
  obtain ⟨s, t, he, hs, ht⟩ := h
  obtain ⟨rfl, rfl⟩ : s = .slice sa l.ps.length sc ∧ t = .slice ta l.ak.length tc := by unfold LeadV.agg at he; simp at he; exact ⟨he.1.symm, he.2.symm⟩
  have HRow := Lib.hid (fun u (hu : Below w.heap.size w u) => ht.keep hu)
  have HLm := Lib.hid (hl.2)
  have HCp := Lib.hid (hct)
  have HNil : Hid (ta = none → l.ak = [] ∧ tc = 0) := Lib.hid (fun e => by subst e; have := ht.empty_of_nil; exact ⟨this.1, this.2.2⟩)
  have HEl : Hid (0 < l.ak.length → ∃ b off, ta = some ⟨b, off, none⟩) := Lib.hid (fun hp => by
    obtain ⟨_, a', c', he, _, h3⟩ := ht
    cases he
    obtain ⟨b, off, e, -⟩ := h3 hp
    exact ⟨b, off, e⟩)
  clear hs ht hl he hcs hct
  obtain ⟨p0, hp0⟩ : ∃ q, posL (fun z => z) n l.ak = q := ⟨_, rfl⟩
  obtain ⟨q0, hq0⟩ : ∃ q, hitL (fun z => z) n l.ak = q := ⟨_, rfl⟩
  have HPl : Hid (p0 ≤ l.ak.length) := Lib.hid (by rw [← hp0]; exact posL_le _ _ _)
  have HPt : Hid (∀ k (hk : k < l.ak.length), k < p0 → (fun z => z) l.ak[k] < n) := Lib.hid (fun k hk h => posL_lt _ _ _ k hk (by rw [hp0]; exact h))
  have HPa : Hid (∀ (hk : p0 < l.ak.length), ¬ (fun z => z) l.ak[p0] < n ∧ q0 = decide ((fun z => z) l.ak[p0] = n)) := Lib.hid (fun hk => by
    subst hp0
    exact ⟨posL_at _ _ _ hk, by rw [← hq0]; exact atL_in hk⟩)
  have HPo : Hid (l.ak.length ≤ p0 → q0 = false) := Lib.hid (fun hk => by
    subst hp0
    rw [← hq0]; exact atL_out hk)
  have HPut : Hid (putL (fun z => z) l.ak n = l.ak.take p0 ++ n :: l.ak.drop (if q0 then p0 + 1 else p0)) := Lib.hid (by rw [← hp0, ← hq0]; rfl)
  clear hp0 hq0
  have HX := Lib.hid (ltwo_new w l.st l.r l.m (.slice sa l.ps.length sc) l.has l.val (.slice ta l.ak.length tc)).res
  unfold LeadV.agg
  unfold LdS LeadV.agg at HC
  have mixed : Try.prog.follows .mixedOrders = true := by kernel_rfl
  go_enter Try.func19, Try.ntmps19
  go_upto_region 1 with fail
  generalize ((w.alloc (.cells #[.int .i64 l.st, .int .i64 l.r, .int .i64 l.m, .slice sa l.ps.length sc, .bool l.has, .string l.val, .slice ta l.ak.length tc] 27)).alloc (.cells #[.int .i64 0, .int .i64 0, .int .i64 0, .slice none 0 0, .bool false, .string { data := #[] }, .slice none 0 0] 27)) = W at HX ⊢
  obtain ⟨l0, l1, l2, l3, l4, l5, l6⟩ := HX.out.one.cells
  go_upto_region 2 with (go_at_call 11; refine (HC.out _ HX.out.bel).mono ?_; rintro e w5 ⟨s5, t5, rfl, ho, hb⟩; obtain ⟨a5, c5, rfl⟩ := ho.1.slice; obtain ⟨b5, d5, rfl⟩ := ho.2.slice; have HX5 := Lib.hid (HX.out.keep hb); have HO5 := Lib.hid (ho.mono (show w.heap.size + 1 + 1 ≤ _ from HX.out.two.lt)); clear ho hb l0 l1 l2 l3 l4 l5 l6)
  have hbn := below_new w5 (.cells #[.int .i64 l.st, .int .i64 l.r, .int .i64 l.m, .slice a5 l.ps.length c5, .bool l.has, .string l.val, .slice b5 l.ak.length d5] 27)
  have HX6 := Lib.hid (HX5.out.keep hbn)
  have HO6 := Lib.hid (HO5.out.keep hbn)
  have HC6 := Lib.hid (lbox_new w5 l.st l.r l.m (.slice a5 l.ps.length c5) l.has l.val (.slice b5 l.ak.length d5))
  have HMC := Lib.hid (show w.heap.size + 1 < w5.heap.size from HX5.out.two.lt)
  have HBk : Hid (∀ g, (Value.slice a5 l.ps.length c5).ownBlock = some g → g < w5.heap.size) := Lib.hid (fun g hg => (HO5.out.1.blk g hg).2)
  have HWs := Lib.hid (World.size_alloc w5 (.cells #[.int .i64 l.st, .int .i64 l.r, .int .i64 l.m, .slice a5 l.ps.length c5, .bool l.has, .string l.val, .slice b5 l.ak.length d5] 27))
  clear hbn HX5 HO5 HX HC
  generalize w5.alloc _ = W6 at HX6 HO6 HC6 HWs ⊢
  generalize w5.heap.size = D at HC6 HMC HBk HWs ⊢
  obtain ⟨l0, l1, l2, l3, l4, l5, l6⟩ := HX6.out.one.cells
  by_cases hst : l.has = true
  · have HSt := Lib.hid hst
    go_upto_region 4 with fail
    clear hst
    go_upto_region 6 with fail
    have HBw := Lib.hid (fun u (hu : Below W6.heap.size W6 u) => HX6.out.bel.trans (hu.mono HX6.out.bel.size))
    cases ta with
    | none =>
      obtain ⟨hn1, hn2⟩ := HNil.out rfl
      have hlen : l.ak.length = 0 := by rw [hn1]; rfl
      have hp : p0 = 0 := by have := HPl.out; omega
      have hq : q0 = false := HPo.out (by omega)
      have HPu2 : Hid (putL (fun z => z) l.ak n = [n]) := Lib.hid (by rw [HPut.out, hn1]; simp)
      subst hp; subst hq; subst hn2
      have HLz := Lib.hid hlen
      rw [hlen] at HX6 ⊢
      clear HNil HRow HEl HPl HPt HPa HPo HPut HCp hn1 hlen l0 l1 l2 l3 l4 l5 l6
      go_loopw [7] (fun vi wr => vi = .int .i64 0 ∧ Below W6.heap.size W6 wr) (fun i _ => 0)
      case atStart => exact ⟨rfl, Below.refl _ _⟩
      case round =>
        obtain ⟨rfl, hbw⟩ := hrel
        have HBv := Lib.hid hbw
        have HX7 := Lib.hid (HX6.out.keep hbw)
        clear hbw
        obtain ⟨m0, m1, m2, m3, m4, m5, m6⟩ := HX7.out.one.cells
        skip
        skip
        skip
        go_upto_region 8 with fail
        clear m0 m1 m2 m3 m4 m5 m6 
        skip
        generalize wr = V at HBv ⊢
        have HXv := Lib.hid (HX6.out.keep HBv.out)
        have HSz := Lib.hid (show D < V.heap.size from Nat.lt_of_lt_of_le HC6.out.lt HBv.out.size)
        obtain ⟨m0, m1, m2, m3, m4, m5, m6⟩ := HXv.out.one.cells
        go_upto_region 9 with (at_builtin; refine appSl ic_len ic_one (by decide) rfl _ _ 25 rfl (D + 1) 3 _ (by rfl) 8 Try.underlying25 infoInt _ [] rfl (Own.nil _ _ _) _ ([] : List Int) rfl (Sl.nil _) (by unfold maxLen; simp) (by simp) (by have := HSz.out; omega) ?_; intro v9 w9 ho9 hk9; rw [List.nil_append] at ho9; obtain ⟨x9, y9, hv9⟩ := ho9.slice; rw [List.length_nil] at hv9; subst hv9; have HO9 := Lib.hid ho9; have HK9 := Lib.hid hk9; clear ho9 hk9)
        clear m0 m1 m2 m3 m4 m5 m6
        have HX9 := Lib.hid (HXv.out.keepN HK9.out.toBelow (by have := HMC.out; omega))
        have HB9 := Lib.hid (HBv.out.trans (HK9.out.toBelow.mono (by have := HWs.out; omega)))
        skip
        have hbo := below_new w9 (.cells #[.int .i64 n] 3)
        have HSo := Lib.hid (sl_oneL (enc := ic) ic_len (x := n) (alloc_at w9 (.cells #[.int .i64 n] 3)))
        have HO9b := Lib.hid (HO9.out.below hbo)
        have HSz9 := Lib.hid (show D < w9.heap.size from Nat.lt_of_lt_of_le HSz.out HK9.out.size)
        have HXo := Lib.hid (HX9.out.keep hbo)
        have HBo := Lib.hid (HB9.out.trans (hbo.mono HB9.out.size))
        clear hbo HO9
        go_upto_region 10 with (at_builtin; refine appSl ic_len ic_one (by decide) rfl _ _ 25 rfl (D + 1) 3 _ (by rfl) 8 Try.underlying25 infoInt _ ([] : List Int) rfl HO9b.out _ [n] rfl HSo.out (by unfold maxLen; simp) (by simp) (by have := HSz9.out; rw [World.size_alloc]; omega) ?_; intro v10 w10 ho10 hk10; rw [List.nil_append] at ho10; obtain ⟨x10, y10, hv10⟩ := ho10.slice; rw [List.length_singleton] at hv10; subst hv10; have HO10 := Lib.hid ho10; have HK10 := Lib.hid hk10; clear ho10 hk10)
        skip
        have HX10 := Lib.hid (HXo.out.keepN HK10.out.toBelow (by have := HMC.out; omega))
        have HB10 := Lib.hid (HBo.out.trans (HK10.out.toBelow.mono (by have := HWs.out; omega)))
        have HOt : Hid (Own prc 6 53 w10 (w.heap.size + 1 + 1) (.slice a5 l.ps.length c5) l.ps) := Lib.hid ((((HO6.out.1.below HBv.out).keptO HK9.out (by decide)).below (below_new w9 _)).keptO HK10.out (by decide))
        obtain ⟨m0, m1, m2, m3, m4, m5, m6⟩ := HX10.out.one.cells
        skip
        skip
        go_upto_region 12 with fail
        clear m0 m1 m2 m3 m4 m5 m6 
        have HXw := HX10
        have HBx := HB10
        have HOw := HO10
        have HOu := HOt
        generalize w10 = Vw at HXw HBx HOw HOu ⊢
        have HSzw := Lib.hid (show D < Vw.heap.size from Nat.lt_of_lt_of_le HC6.out.lt HBx.out.size)
        obtain ⟨m0, m1, m2, m3, m4, m5, m6⟩ := HXw.out.one.cells
        go_upto_region 13 with (at_builtin; refine appSl ic_len ic_one (by decide) rfl _ _ 25 rfl (D + 1) 3 _ (by rfl) 8 Try.underlying25 infoInt _ [n] rfl HOw.out _ ([] : List Int) rfl (Sl.nil _) (by unfold maxLen; simp) (by simp) (by have := HSzw.out; omega) ?_; intro v12 w12 ho12 hk12; rw [List.append_nil] at ho12; obtain ⟨x12, y12, hv12⟩ := ho12.slice; rw [List.length_singleton] at hv12; subst hv12; have HO12 := Lib.hid ho12; have HK12 := Lib.hid hk12; have cC := (HC6.out.keep (HBx.out.trans (hk12.toBelow.mono (by have := HWs.out; omega)))).cells.2.2.2.2.2.2; have tC := (HC6.out.keep (HBx.out.trans (hk12.toBelow.mono (by have := HWs.out; omega)))).thaw 6; clear ho12 hk12)
        have HXz := Lib.hid (HXw.out.keepN HK12.out.toBelow (by have := HMC.out; omega))
        have HCz := Lib.hid ((HC6.out.keep (HBx.out.trans (HK12.out.toBelow.mono (by have := HWs.out; omega)))).set6 (.slice x12 1 y12))
        have HRz : Hid (Own ic 1 3 (w12.setCell ⟨D, 6, none⟩ (.slice x12 1 y12)) (w.heap.size + 1 + 1) (.slice x12 1 y12) [n]) := Lib.hid ((HO12.out.far6L (N := D) (by omega) _ _).mono (by have := HMC.out; omega))
        have HOz : Hid (Own prc 6 53 (w12.setCell ⟨D, 6, none⟩ (.slice x12 1 y12)) (w.heap.size + 1 + 1) (.slice a5 l.ps.length c5) l.ps) := Lib.hid ((HOu.out.keptO HK12.out (by decide)).setOther (fun e => by have := HBk.out D e; omega) _ _)
        have HXz2 : Hid (LBox (w12.setCell ⟨D, 6, none⟩ (.slice x12 1 y12)) (w.heap.size + 1) 0 0 0 (.slice none 0 0) false { data := #[] } (.slice none 0 0) ∧ Below w.heap.size w (w12.setCell ⟨D, 6, none⟩ (.slice x12 1 y12))) := Lib.hid ⟨(heap_setCell_other _ _ _ _ (by have := HMC.out; show w.heap.size + 1 ≠ D; omega)).trans HXz.out.two, HXz.out.bel.setCell (p := ⟨D, 6, none⟩) (by have := HMC.out; show w.heap.size ≤ D; omega) _⟩
        clear cC tC m0 m1 m2 m3 m4 m5 m6 HO12 HK12 HOu HOw
        generalize w12.setCell ⟨D, 6, none⟩ _ = Z at HCz HRz HOz HXz2 ⊢
        obtain ⟨m0, m1, m2, m3, m4, m5, m6⟩ := HCz.out.cells
        go_wp2_with (refine wpList_store_mid rfl 27 _ _ rfl (w.heap.size + 1) 0 #[.int .i64 l.st, .int .i64 l.r, .int .i64 l.m, .slice a5 l.ps.length c5, .bool l.has, .string l.val, .slice x12 1 y12] rfl rfl HXz2.out.1.there sizeLead (lead_one _ _ _ _ _ _ _ _ _ _ _) ?_)
        refine bodyPost_ret (ret_cell rfl rfl (HXz2.out.1.put l.st l.r l.m (.slice a5 l.ps.length c5) l.has l.val (.slice x12 1 y12)).range Try.underlying27 rfl sizeLead) rfl ?_
        have hlo : LdO Z (w.heap.size + 1 + 1) (.slice a5 l.ps.length c5) (.slice x12 1 y12) { l with ak := [n] } := ⟨HOz.out, HRz.out⟩
        rw [ack_ps l n HSt.out, HPu2.out]
        exact ⟨_, _, rfl, (hlo.farC (N := w.heap.size + 1) (by omega) _ 0).mono (by omega), Below.setCells HXz2.out.2 (b := w.heap.size + 1) (by omega) 0 _⟩
    | some ax =>
      clear HNil l0 l1 l2 l3 l4 l5 l6
      go_loopw [7] (fun vi wr => ∃ k : Nat, k ≤ p0 ∧ vi = .int .i64 k ∧ Below W6.heap.size W6 wr) (fun i _ => p0 - (intOf i).toNat)
      case atStart => exact ⟨0, Nat.zero_le _, rfl, Below.refl _ _⟩
      case round =>
        obtain ⟨k, hk, rfl, hbw⟩ := hrel
        have HBr := Lib.hid hbw
        obtain ⟨m0, m1, m2, m3, m4, m5, m6⟩ := (HX6.out.keep hbw).one.cells
        skip
        by_cases hlt : k < p0
        · have hkl : k < l.ak.length := by have := HPl.out; omega
          have hlm := HLm.out
          have hki : (k : Int) < (l.ak.length : Int) := by omega
          have hk0 : (0 : Int) ≤ k := by omega
          have hxy := HPt.out k hkl hlt
          obtain ⟨b1, o1, z1, hl3, hr1⟩ := sl_elem (HRow.out _ (HBw.out _ hbw)) k (by omega)
          cases z1
          have e1 := hr1 0 _ rfl
          simp only [Nat.add_zero, Nat.mul_one] at e1
          clear hl3 hr1
          clear hbw
          generalize l.ak[k] = x at e1 hxy
          skip
          try simp only at e1 hxy
          skip
          skip
          go_wp2
          go_roundw
          case rel => exact ⟨k + 1, by omega, by go_num, HBr.out⟩
          case measure => simp [intOf]; omega
        · obtain rfl : k = p0 := by omega
          rcases Nat.lt_or_ge k l.ak.length with hkl | hkl
          · have hki : (k : Int) < (l.ak.length : Int) := by omega
            have hk0 : (0 : Int) ≤ k := by omega
            have hxy := (HPa.out hkl).1
            obtain ⟨b1, o1, z1, hl3, hr1⟩ := sl_elem (HRow.out _ (HBw.out _ hbw)) k (by omega)
            cases z1
            have e1 := hr1 0 _ rfl
            simp only [Nat.add_zero, Nat.mul_one] at e1
            clear hl3 hr1
            have HBv : Hid (Below W6.heap.size W6 (wr)) := HBr
            clear hbw HBr hlt
            generalize l.ak[k] = x at e1 hxy
            skip
            try simp only at e1 hxy
            skip
            skip
            go_upto_region 8 with fail
            clear e1 m0 m1 m2 m3 m4 m5 m6  hxy hki hk0
            generalize wr = V at HBv ⊢
            obtain ⟨p0, rfl⟩ : ∃ z, z = k := ⟨_, rfl⟩
            have HXv := Lib.hid (HX6.out.keep HBv.out)
            have HSz := Lib.hid (show D < V.heap.size from Nat.lt_of_lt_of_le HC6.out.lt HBv.out.size)
            have hpc : (p0 : Int) ≤ (tc : Int) := by have := HPl.out; have := HCp.out; omega
            have hpc2 : p0 ≤ tc := by omega
            have hp00 : (0 : Int) ≤ (p0 : Int) := by omega
            obtain ⟨m0, m1, m2, m3, m4, m5, m6⟩ := HXv.out.one.cells
            have HTl : Hid ((l.ak.take p0).length = p0) := Lib.hid (by rw [List.length_take]; have := HPl.out; omega)
            have HTl2 : Hid ((l.ak.take p0 ++ [n]).length = p0 + 1) := Lib.hid (by rw [List.length_append, HTl.out]; rfl)
            have HTk := Lib.hid (sl_takeL (HRow.out V (HBw.out V HBv.out)) p0 HPl.out)
            go_upto_region 9 with (at_builtin; refine appSl ic_len ic_one (by decide) rfl _ _ 25 rfl (D + 1) 3 _ (by rfl) 8 Try.underlying25 infoInt _ [] rfl (Own.nil _ _ _) _ (l.ak.take p0) rfl HTk.out (by have := HLm.out; have := HPl.out; unfold maxLen; simp; omega) (by have := HLm.out; have := HPl.out; simp; omega) (by have := HSz.out; omega) ?_; intro v9 w9 ho9 hk9; rw [List.nil_append] at ho9; obtain ⟨x9, y9, hv9⟩ := ho9.slice; rw [HTl.out] at hv9; subst hv9; have HO9 := Lib.hid ho9; have HK9 := Lib.hid hk9; clear ho9 hk9)
            clear m0 m1 m2 m3 m4 m5 m6 hpc hpc2
            have HX9 := Lib.hid (HXv.out.keepN HK9.out.toBelow (by have := HMC.out; omega))
            have HB9 := Lib.hid (HBv.out.trans (HK9.out.toBelow.mono (by have := HWs.out; omega)))
            skip
            have hbo := below_new w9 (.cells #[.int .i64 n] 3)
            have HSo := Lib.hid (sl_oneL (enc := ic) ic_len (x := n) (alloc_at w9 (.cells #[.int .i64 n] 3)))
            have HO9b := Lib.hid (HO9.out.below hbo)
            have HSz9 := Lib.hid (show D < w9.heap.size from Nat.lt_of_lt_of_le HSz.out HK9.out.size)
            have HXo := Lib.hid (HX9.out.keep hbo)
            have HBo := Lib.hid (HB9.out.trans (hbo.mono HB9.out.size))
            clear hbo HO9 HTk
            go_upto_region 10 with (at_builtin; refine appSl ic_len ic_one (by decide) rfl _ _ 25 rfl (D + 1) 3 _ (by rfl) 8 Try.underlying25 infoInt _ (l.ak.take p0) rfl HO9b.out _ [n] rfl HSo.out (by have := HLm.out; have := HPl.out; unfold maxLen; simp; omega) (by have := HLm.out; have := HPl.out; simp; omega) (by have := HSz9.out; rw [World.size_alloc]; omega) ?_; intro v10 w10 ho10 hk10; obtain ⟨x10, y10, hv10⟩ := ho10.slice; rw [HTl2.out] at hv10; subst hv10; have HO10 := Lib.hid ho10; have HK10 := Lib.hid hk10; clear ho10 hk10)
            skip
            have HX10 := Lib.hid (HXo.out.keepN HK10.out.toBelow (by have := HMC.out; omega))
            have HB10 := Lib.hid (HBo.out.trans (HK10.out.toBelow.mono (by have := HWs.out; omega)))
            have HOt : Hid (Own prc 6 53 w10 (w.heap.size + 1 + 1) (.slice a5 l.ps.length c5) l.ps) := Lib.hid ((((HO6.out.1.below HBv.out).keptO HK9.out (by decide)).below (below_new w9 _)).keptO HK10.out (by decide))
            clear HX9 HXo HO9b HSo HSz HSz9
            have hki : (p0 : Int) < (l.ak.length : Int) := by omega
            have hk0 : (0 : Int) ≤ p0 := by omega
            have hxq := (HPa.out hkl).2
            obtain ⟨m0, m1, m2, m3, m4, m5, m6⟩ := HX10.out.one.cells
            skip
            obtain ⟨b3, o3, z3, hl3, hr3⟩ := sl_elem (HRow.out _ (HX10.out.bel)) p0 (by omega)
            have z4 : b1 = b3 ∧ o1 = o3 := by simpa using z3
            rw [← z4.1, ← z4.2] at hr3
            have e1 := hr3 0 _ rfl
            simp only [Nat.add_zero, Nat.mul_one] at e1
            clear hl3 hr3 z3 z4
            generalize l.ak[p0] = x at e1 hxq
            skip
            try simp only at e1 hxq
            cases q0 with
            | true =>
              have hxe : True → (x == n) = true := fun _ => by have := of_decide_eq_true hxq.symm; simp [this]
              clear hxq
              skip
              go_upto_region 12 with fail
              clear e1 m0 m1 m2 m3 m4 m5 m6  hxe hki hk0
              have HXw := HX10
              have HBx := HB10
              have HOw := HO10
              have HOu := HOt
              generalize w10 = Vw at HXw HBx HOw HOu ⊢
              obtain ⟨kk, hkk⟩ : ∃ z, p0 + 1 = z := ⟨_, rfl⟩
              have HKk : Hid (kk ≤ l.ak.length ∧ (if true = true then p0 + 1 else p0) = kk) := Lib.hid ⟨by omega, by rw [if_pos rfl]; exact hkk⟩
              rw [show (p0 : Int) + 1 = (kk : Int) by omega]
              have hwk : wrap64 (kk : Int) = (kk : Int) := by have := HLm.out; have := HKk.out.1; unfold wrap64; omega
              try rw [hwk]
              clear hwk
              clear hkk
              have hk1 : (0 : Int) ≤ (kk : Int) := by omega
              have hk2 : (kk : Int) ≤ (l.ak.length : Int) := by have := HKk.out.1; omega
              have hk3 : (kk : Int) ≤ (tc : Int) := by have := HCp.out; omega
              have hk4 : (l.ak.length : Int) ≤ (tc : Int) := by have := HCp.out; omega
              have hk5 : kk ≤ tc := by omega
              have hk6 : kk ≤ l.ak.length := by omega
              have hk7 : l.ak.length ≤ tc := by omega
              obtain ⟨A, hA, hA2⟩ : ∃ A : Addr, (if tc = kk then some (⟨b1, o1, none⟩ : Addr) else some (⟨b1, o1 + kk, none⟩ : Addr)) = some A ∧ (kk < l.ak.length → A = (⟨b1, o1, none⟩ : Addr).add (kk * 1)) := by
                by_cases hc0 : tc = kk
                · exact ⟨(⟨b1, o1, none⟩ : Addr), by rw [if_pos hc0], fun hlt => by omega⟩
                · exact ⟨(⟨b1, o1 + kk, none⟩ : Addr), by rw [if_neg hc0], fun _ => by first | rfl | (rw [Nat.mul_one, add_plain']; done) | (rw [add_plain']; done) | (rw [Nat.mul_one]; done)⟩
              have HDr := Lib.hid (sl_dropL (HRow.out _ (HXw.out.bel)) kk HKk.out.1 A (tc - kk) hA2)
              have HTl3 : Hid ((l.ak.take p0 ++ [n] ++ l.ak.drop kk).length = p0 + 1 + (l.ak.length - kk)) := Lib.hid (by rw [List.length_append, HTl2.out, List.length_drop])
              have HSzw := Lib.hid (show D < Vw.heap.size from Nat.lt_of_lt_of_le HC6.out.lt HBx.out.size)
              obtain ⟨m0, m1, m2, m3, m4, m5, m6⟩ := HXw.out.one.cells
              go_upto_region 13 with (at_builtin; refine appSl ic_len ic_one (by decide) rfl _ _ 25 rfl (D + 1) 3 _ (by rfl) 8 Try.underlying25 infoInt _ (l.ak.take p0 ++ [n]) rfl HOw.out _ (l.ak.drop kk) rfl HDr.out (by have := HLm.out; have := HPl.out; unfold maxLen; simp; omega) (by have := HLm.out; have := HPl.out; simp; omega) (by have := HSzw.out; omega) ?_; intro v12 w12 ho12 hk12; obtain ⟨x12, y12, hv12⟩ := ho12.slice; rw [HTl3.out] at hv12; subst hv12; have HO12 := Lib.hid ho12; have HK12 := Lib.hid hk12; have cC := (HC6.out.keep (HBx.out.trans (hk12.toBelow.mono (by have := HWs.out; omega)))).cells.2.2.2.2.2.2; have tC := (HC6.out.keep (HBx.out.trans (hk12.toBelow.mono (by have := HWs.out; omega)))).thaw 6; clear ho12 hk12)
              have HXz := Lib.hid (HXw.out.keepN HK12.out.toBelow (by have := HMC.out; omega))
              have HCz := Lib.hid ((HC6.out.keep (HBx.out.trans (HK12.out.toBelow.mono (by have := HWs.out; omega)))).set6 (.slice x12 (p0 + 1 + (l.ak.length - kk)) y12))
              have HRz : Hid (Own ic 1 3 (w12.setCell ⟨D, 6, none⟩ (.slice x12 (p0 + 1 + (l.ak.length - kk)) y12)) (w.heap.size + 1 + 1) (.slice x12 (p0 + 1 + (l.ak.length - kk)) y12) (l.ak.take p0 ++ [n] ++ l.ak.drop kk)) := Lib.hid ((HO12.out.far6L (N := D) (by omega) _ _).mono (by have := HMC.out; omega))
              have HOz : Hid (Own prc 6 53 (w12.setCell ⟨D, 6, none⟩ (.slice x12 (p0 + 1 + (l.ak.length - kk)) y12)) (w.heap.size + 1 + 1) (.slice a5 l.ps.length c5) l.ps) := Lib.hid ((HOu.out.keptO HK12.out (by decide)).setOther (fun e => by have := HBk.out D e; omega) _ _)
              have HXz2 : Hid (LBox (w12.setCell ⟨D, 6, none⟩ (.slice x12 (p0 + 1 + (l.ak.length - kk)) y12)) (w.heap.size + 1) 0 0 0 (.slice none 0 0) false { data := #[] } (.slice none 0 0) ∧ Below w.heap.size w (w12.setCell ⟨D, 6, none⟩ (.slice x12 (p0 + 1 + (l.ak.length - kk)) y12))) := Lib.hid ⟨(heap_setCell_other _ _ _ _ (by have := HMC.out; show w.heap.size + 1 ≠ D; omega)).trans HXz.out.two, HXz.out.bel.setCell (p := ⟨D, 6, none⟩) (by have := HMC.out; show w.heap.size ≤ D; omega) _⟩
              clear cC tC m0 m1 m2 m3 m4 m5 m6 HO12 HK12 HOu HOw
              generalize w12.setCell ⟨D, 6, none⟩ _ = Z at HCz HRz HOz HXz2 ⊢
              obtain ⟨m0, m1, m2, m3, m4, m5, m6⟩ := HCz.out.cells
              go_wp2_with (refine wpList_store_mid rfl 27 _ _ rfl (w.heap.size + 1) 0 #[.int .i64 l.st, .int .i64 l.r, .int .i64 l.m, .slice a5 l.ps.length c5, .bool l.has, .string l.val, .slice x12 (p0 + 1 + (l.ak.length - kk)) y12] rfl rfl HXz2.out.1.there sizeLead (lead_one _ _ _ _ _ _ _ _ _ _ _) ?_)
              refine bodyPost_ret (ret_cell rfl rfl (HXz2.out.1.put l.st l.r l.m (.slice a5 l.ps.length c5) l.has l.val (.slice x12 (p0 + 1 + (l.ak.length - kk)) y12)).range Try.underlying27 rfl sizeLead) rfl ?_
              have hlo : LdO Z (w.heap.size + 1 + 1) (.slice a5 l.ps.length c5) (.slice x12 (p0 + 1 + (l.ak.length - kk)) y12) { l with ak := l.ak.take p0 ++ [n] ++ l.ak.drop kk } := ⟨HOz.out, HRz.out⟩
              rw [ack_ps l n HSt.out, HPut.out, HKk.out.2]
              have hap : l.ak.take p0 ++ n :: l.ak.drop kk = l.ak.take p0 ++ [n] ++ l.ak.drop kk := by simp
              rw [hap]
              exact ⟨_, _, rfl, (hlo.farC (N := w.heap.size + 1) (by omega) _ 0).mono (by omega), Below.setCells HXz2.out.2 (b := w.heap.size + 1) (by omega) 0 _⟩
            | false =>
              have hxe : True → (x == n) = false := fun _ => by have := of_decide_eq_false hxq.symm; simp [this]
              clear hxq
              skip
              go_upto_region 12 with fail
              clear e1 m0 m1 m2 m3 m4 m5 m6  hxe hki hk0
              have HXw := HX10
              have HBx := HB10
              have HOw := HO10
              have HOu := HOt
              generalize w10 = Vw at HXw HBx HOw HOu ⊢
              obtain ⟨kk, hkk⟩ : ∃ z, p0 = z := ⟨_, rfl⟩
              have HKk : Hid (kk ≤ l.ak.length ∧ (if false = true then p0 + 1 else p0) = kk) := Lib.hid ⟨by omega, by rw [if_neg (by decide)]; exact hkk⟩
              rw [show (p0 : Int) = (kk : Int) by omega]
              clear hkk
              have hk1 : (0 : Int) ≤ (kk : Int) := by omega
              have hk2 : (kk : Int) ≤ (l.ak.length : Int) := by have := HKk.out.1; omega
              have hk3 : (kk : Int) ≤ (tc : Int) := by have := HCp.out; omega
              have hk4 : (l.ak.length : Int) ≤ (tc : Int) := by have := HCp.out; omega
              have hk5 : kk ≤ tc := by omega
              have hk6 : kk ≤ l.ak.length := by omega
              have hk7 : l.ak.length ≤ tc := by omega
              obtain ⟨A, hA, hA2⟩ : ∃ A : Addr, (if tc = kk then some (⟨b1, o1, none⟩ : Addr) else some (⟨b1, o1 + kk, none⟩ : Addr)) = some A ∧ (kk < l.ak.length → A = (⟨b1, o1, none⟩ : Addr).add (kk * 1)) := by
                by_cases hc0 : tc = kk
                · exact ⟨(⟨b1, o1, none⟩ : Addr), by rw [if_pos hc0], fun hlt => by omega⟩
                · exact ⟨(⟨b1, o1 + kk, none⟩ : Addr), by rw [if_neg hc0], fun _ => by first | rfl | (rw [Nat.mul_one, add_plain']; done) | (rw [add_plain']; done) | (rw [Nat.mul_one]; done)⟩
              have HDr := Lib.hid (sl_dropL (HRow.out _ (HXw.out.bel)) kk HKk.out.1 A (tc - kk) hA2)
              have HTl3 : Hid ((l.ak.take p0 ++ [n] ++ l.ak.drop kk).length = p0 + 1 + (l.ak.length - kk)) := Lib.hid (by rw [List.length_append, HTl2.out, List.length_drop])
              have HSzw := Lib.hid (show D < Vw.heap.size from Nat.lt_of_lt_of_le HC6.out.lt HBx.out.size)
              obtain ⟨m0, m1, m2, m3, m4, m5, m6⟩ := HXw.out.one.cells
              go_upto_region 13 with (at_builtin; refine appSl ic_len ic_one (by decide) rfl _ _ 25 rfl (D + 1) 3 _ (by rfl) 8 Try.underlying25 infoInt _ (l.ak.take p0 ++ [n]) rfl HOw.out _ (l.ak.drop kk) rfl HDr.out (by have := HLm.out; have := HPl.out; unfold maxLen; simp; omega) (by have := HLm.out; have := HPl.out; simp; omega) (by have := HSzw.out; omega) ?_; intro v12 w12 ho12 hk12; obtain ⟨x12, y12, hv12⟩ := ho12.slice; rw [HTl3.out] at hv12; subst hv12; have HO12 := Lib.hid ho12; have HK12 := Lib.hid hk12; have cC := (HC6.out.keep (HBx.out.trans (hk12.toBelow.mono (by have := HWs.out; omega)))).cells.2.2.2.2.2.2; have tC := (HC6.out.keep (HBx.out.trans (hk12.toBelow.mono (by have := HWs.out; omega)))).thaw 6; clear ho12 hk12)
              have HXz := Lib.hid (HXw.out.keepN HK12.out.toBelow (by have := HMC.out; omega))
              have HCz := Lib.hid ((HC6.out.keep (HBx.out.trans (HK12.out.toBelow.mono (by have := HWs.out; omega)))).set6 (.slice x12 (p0 + 1 + (l.ak.length - kk)) y12))
              have HRz : Hid (Own ic 1 3 (w12.setCell ⟨D, 6, none⟩ (.slice x12 (p0 + 1 + (l.ak.length - kk)) y12)) (w.heap.size + 1 + 1) (.slice x12 (p0 + 1 + (l.ak.length - kk)) y12) (l.ak.take p0 ++ [n] ++ l.ak.drop kk)) := Lib.hid ((HO12.out.far6L (N := D) (by omega) _ _).mono (by have := HMC.out; omega))
              have HOz : Hid (Own prc 6 53 (w12.setCell ⟨D, 6, none⟩ (.slice x12 (p0 + 1 + (l.ak.length - kk)) y12)) (w.heap.size + 1 + 1) (.slice a5 l.ps.length c5) l.ps) := Lib.hid ((HOu.out.keptO HK12.out (by decide)).setOther (fun e => by have := HBk.out D e; omega) _ _)
              have HXz2 : Hid (LBox (w12.setCell ⟨D, 6, none⟩ (.slice x12 (p0 + 1 + (l.ak.length - kk)) y12)) (w.heap.size + 1) 0 0 0 (.slice none 0 0) false { data := #[] } (.slice none 0 0) ∧ Below w.heap.size w (w12.setCell ⟨D, 6, none⟩ (.slice x12 (p0 + 1 + (l.ak.length - kk)) y12))) := Lib.hid ⟨(heap_setCell_other _ _ _ _ (by have := HMC.out; show w.heap.size + 1 ≠ D; omega)).trans HXz.out.two, HXz.out.bel.setCell (p := ⟨D, 6, none⟩) (by have := HMC.out; show w.heap.size ≤ D; omega) _⟩
              clear cC tC m0 m1 m2 m3 m4 m5 m6 HO12 HK12 HOu HOw
              generalize w12.setCell ⟨D, 6, none⟩ _ = Z at HCz HRz HOz HXz2 ⊢
              obtain ⟨m0, m1, m2, m3, m4, m5, m6⟩ := HCz.out.cells
              go_wp2_with (refine wpList_store_mid rfl 27 _ _ rfl (w.heap.size + 1) 0 #[.int .i64 l.st, .int .i64 l.r, .int .i64 l.m, .slice a5 l.ps.length c5, .bool l.has, .string l.val, .slice x12 (p0 + 1 + (l.ak.length - kk)) y12] rfl rfl HXz2.out.1.there sizeLead (lead_one _ _ _ _ _ _ _ _ _ _ _) ?_)
              refine bodyPost_ret (ret_cell rfl rfl (HXz2.out.1.put l.st l.r l.m (.slice a5 l.ps.length c5) l.has l.val (.slice x12 (p0 + 1 + (l.ak.length - kk)) y12)).range Try.underlying27 rfl sizeLead) rfl ?_
              have hlo : LdO Z (w.heap.size + 1 + 1) (.slice a5 l.ps.length c5) (.slice x12 (p0 + 1 + (l.ak.length - kk)) y12) { l with ak := l.ak.take p0 ++ [n] ++ l.ak.drop kk } := ⟨HOz.out, HRz.out⟩
              rw [ack_ps l n HSt.out, HPut.out, HKk.out.2]
              have hap : l.ak.take p0 ++ n :: l.ak.drop kk = l.ak.take p0 ++ [n] ++ l.ak.drop kk := by simp
              rw [hap]
              exact ⟨_, _, rfl, (hlo.farC (N := w.heap.size + 1) (by omega) _ 0).mono (by omega), Below.setCells HXz2.out.2 (b := w.heap.size + 1) (by omega) 0 _⟩
          · have hki : ¬ ((k : Int) < (l.ak.length : Int)) := by omega
            have HBv : Hid (Below W6.heap.size W6 wr) := HBr
            clear hbw HBr hlt
            skip
            skip
            go_upto_region 8 with fail
            clear m0 m1 m2 m3 m4 m5 m6  hki
            generalize wr = V at HBv ⊢
            obtain ⟨p0, rfl⟩ : ∃ z, z = k := ⟨_, rfl⟩
            have HXv := Lib.hid (HX6.out.keep HBv.out)
            have HSz := Lib.hid (show D < V.heap.size from Nat.lt_of_lt_of_le HC6.out.lt HBv.out.size)
            have hpc : (p0 : Int) ≤ (tc : Int) := by have := HPl.out; have := HCp.out; omega
            have hpc2 : p0 ≤ tc := by omega
            have hp00 : (0 : Int) ≤ (p0 : Int) := by omega
            obtain ⟨m0, m1, m2, m3, m4, m5, m6⟩ := HXv.out.one.cells
            have HTl : Hid ((l.ak.take p0).length = p0) := Lib.hid (by rw [List.length_take]; have := HPl.out; omega)
            have HTl2 : Hid ((l.ak.take p0 ++ [n]).length = p0 + 1) := Lib.hid (by rw [List.length_append, HTl.out]; rfl)
            have HTk := Lib.hid (sl_takeL (HRow.out V (HBw.out V HBv.out)) p0 HPl.out)
            go_upto_region 9 with (at_builtin; refine appSl ic_len ic_one (by decide) rfl _ _ 25 rfl (D + 1) 3 _ (by rfl) 8 Try.underlying25 infoInt _ [] rfl (Own.nil _ _ _) _ (l.ak.take p0) rfl HTk.out (by have := HLm.out; have := HPl.out; unfold maxLen; simp; omega) (by have := HLm.out; have := HPl.out; simp; omega) (by have := HSz.out; omega) ?_; intro v9 w9 ho9 hk9; rw [List.nil_append] at ho9; obtain ⟨x9, y9, hv9⟩ := ho9.slice; rw [HTl.out] at hv9; subst hv9; have HO9 := Lib.hid ho9; have HK9 := Lib.hid hk9; clear ho9 hk9)
            clear m0 m1 m2 m3 m4 m5 m6 hpc hpc2
            have HX9 := Lib.hid (HXv.out.keepN HK9.out.toBelow (by have := HMC.out; omega))
            have HB9 := Lib.hid (HBv.out.trans (HK9.out.toBelow.mono (by have := HWs.out; omega)))
            skip
            have hbo := below_new w9 (.cells #[.int .i64 n] 3)
            have HSo := Lib.hid (sl_oneL (enc := ic) ic_len (x := n) (alloc_at w9 (.cells #[.int .i64 n] 3)))
            have HO9b := Lib.hid (HO9.out.below hbo)
            have HSz9 := Lib.hid (show D < w9.heap.size from Nat.lt_of_lt_of_le HSz.out HK9.out.size)
            have HXo := Lib.hid (HX9.out.keep hbo)
            have HBo := Lib.hid (HB9.out.trans (hbo.mono HB9.out.size))
            clear hbo HO9 HTk
            go_upto_region 10 with (at_builtin; refine appSl ic_len ic_one (by decide) rfl _ _ 25 rfl (D + 1) 3 _ (by rfl) 8 Try.underlying25 infoInt _ (l.ak.take p0) rfl HO9b.out _ [n] rfl HSo.out (by have := HLm.out; have := HPl.out; unfold maxLen; simp; omega) (by have := HLm.out; have := HPl.out; simp; omega) (by have := HSz9.out; rw [World.size_alloc]; omega) ?_; intro v10 w10 ho10 hk10; obtain ⟨x10, y10, hv10⟩ := ho10.slice; rw [HTl2.out] at hv10; subst hv10; have HO10 := Lib.hid ho10; have HK10 := Lib.hid hk10; clear ho10 hk10)
            skip
            have HX10 := Lib.hid (HXo.out.keepN HK10.out.toBelow (by have := HMC.out; omega))
            have HB10 := Lib.hid (HBo.out.trans (HK10.out.toBelow.mono (by have := HWs.out; omega)))
            have HOt : Hid (Own prc 6 53 w10 (w.heap.size + 1 + 1) (.slice a5 l.ps.length c5) l.ps) := Lib.hid ((((HO6.out.1.below HBv.out).keptO HK9.out (by decide)).below (below_new w9 _)).keptO HK10.out (by decide))
            clear HX9 HXo HO9b HSo HSz HSz9
            have hki : ¬ ((p0 : Int) < (l.ak.length : Int)) := by omega
            have hq := HPo.out hkl
            subst hq
            obtain ⟨m0, m1, m2, m3, m4, m5, m6⟩ := HX10.out.one.cells
            skip
            skip
            go_upto_region 12 with fail
            clear m0 m1 m2 m3 m4 m5 m6  hki
            have HXw := HX10
            have HBx := HB10
            have HOw := HO10
            have HOu := HOt
            generalize w10 = Vw at HXw HBx HOw HOu ⊢
            obtain ⟨kk, hkk⟩ : ∃ z, p0 = z := ⟨_, rfl⟩
            have HKk : Hid (kk ≤ l.ak.length ∧ (if false = true then p0 + 1 else p0) = kk) := Lib.hid ⟨by have := HPl.out; omega, by rw [if_neg (by decide)]; exact hkk⟩
            rw [show (p0 : Int) = (kk : Int) by omega]
            clear hkk
            have hk1 : (0 : Int) ≤ (kk : Int) := by omega
            have hk2 : (kk : Int) ≤ (l.ak.length : Int) := by have := HKk.out.1; omega
            have hk3 : (kk : Int) ≤ (tc : Int) := by have := HCp.out; omega
            have hk4 : (l.ak.length : Int) ≤ (tc : Int) := by have := HCp.out; omega
            have hk5 : kk ≤ tc := by omega
            have hk6 : kk ≤ l.ak.length := by omega
            have hk7 : l.ak.length ≤ tc := by omega
            obtain ⟨A, hA, hA2⟩ : ∃ A : Addr, (if tc = kk then some ax else some (ax.add (kk))) = some A ∧ (kk < l.ak.length → A = ax.add (kk * 1)) := by
              by_cases hc0 : tc = kk
              · exact ⟨ax, by rw [if_pos hc0], fun hlt => by omega⟩
              · exact ⟨(ax.add (kk)), by rw [if_neg hc0], fun _ => by first | rfl | (rw [Nat.mul_one, add_plain']; done) | (rw [add_plain']; done) | (rw [Nat.mul_one]; done)⟩
            have HDr := Lib.hid (sl_dropL (HRow.out _ (HXw.out.bel)) kk HKk.out.1 A (tc - kk) hA2)
            have HTl3 : Hid ((l.ak.take p0 ++ [n] ++ l.ak.drop kk).length = p0 + 1 + (l.ak.length - kk)) := Lib.hid (by rw [List.length_append, HTl2.out, List.length_drop])
            have HSzw := Lib.hid (show D < Vw.heap.size from Nat.lt_of_lt_of_le HC6.out.lt HBx.out.size)
            obtain ⟨m0, m1, m2, m3, m4, m5, m6⟩ := HXw.out.one.cells
            go_upto_region 13 with (at_builtin; refine appSl ic_len ic_one (by decide) rfl _ _ 25 rfl (D + 1) 3 _ (by rfl) 8 Try.underlying25 infoInt _ (l.ak.take p0 ++ [n]) rfl HOw.out _ (l.ak.drop kk) rfl HDr.out (by have := HLm.out; have := HPl.out; unfold maxLen; simp; omega) (by have := HLm.out; have := HPl.out; simp; omega) (by have := HSzw.out; omega) ?_; intro v12 w12 ho12 hk12; obtain ⟨x12, y12, hv12⟩ := ho12.slice; rw [HTl3.out] at hv12; subst hv12; have HO12 := Lib.hid ho12; have HK12 := Lib.hid hk12; have cC := (HC6.out.keep (HBx.out.trans (hk12.toBelow.mono (by have := HWs.out; omega)))).cells.2.2.2.2.2.2; have tC := (HC6.out.keep (HBx.out.trans (hk12.toBelow.mono (by have := HWs.out; omega)))).thaw 6; clear ho12 hk12)
            have HXz := Lib.hid (HXw.out.keepN HK12.out.toBelow (by have := HMC.out; omega))
            have HCz := Lib.hid ((HC6.out.keep (HBx.out.trans (HK12.out.toBelow.mono (by have := HWs.out; omega)))).set6 (.slice x12 (p0 + 1 + (l.ak.length - kk)) y12))
            have HRz : Hid (Own ic 1 3 (w12.setCell ⟨D, 6, none⟩ (.slice x12 (p0 + 1 + (l.ak.length - kk)) y12)) (w.heap.size + 1 + 1) (.slice x12 (p0 + 1 + (l.ak.length - kk)) y12) (l.ak.take p0 ++ [n] ++ l.ak.drop kk)) := Lib.hid ((HO12.out.far6L (N := D) (by omega) _ _).mono (by have := HMC.out; omega))
            have HOz : Hid (Own prc 6 53 (w12.setCell ⟨D, 6, none⟩ (.slice x12 (p0 + 1 + (l.ak.length - kk)) y12)) (w.heap.size + 1 + 1) (.slice a5 l.ps.length c5) l.ps) := Lib.hid ((HOu.out.keptO HK12.out (by decide)).setOther (fun e => by have := HBk.out D e; omega) _ _)
            have HXz2 : Hid (LBox (w12.setCell ⟨D, 6, none⟩ (.slice x12 (p0 + 1 + (l.ak.length - kk)) y12)) (w.heap.size + 1) 0 0 0 (.slice none 0 0) false { data := #[] } (.slice none 0 0) ∧ Below w.heap.size w (w12.setCell ⟨D, 6, none⟩ (.slice x12 (p0 + 1 + (l.ak.length - kk)) y12))) := Lib.hid ⟨(heap_setCell_other _ _ _ _ (by have := HMC.out; show w.heap.size + 1 ≠ D; omega)).trans HXz.out.two, HXz.out.bel.setCell (p := ⟨D, 6, none⟩) (by have := HMC.out; show w.heap.size ≤ D; omega) _⟩
            clear cC tC m0 m1 m2 m3 m4 m5 m6 HO12 HK12 HOu HOw
            generalize w12.setCell ⟨D, 6, none⟩ _ = Z at HCz HRz HOz HXz2 ⊢
            obtain ⟨m0, m1, m2, m3, m4, m5, m6⟩ := HCz.out.cells
            go_wp2_with (refine wpList_store_mid rfl 27 _ _ rfl (w.heap.size + 1) 0 #[.int .i64 l.st, .int .i64 l.r, .int .i64 l.m, .slice a5 l.ps.length c5, .bool l.has, .string l.val, .slice x12 (p0 + 1 + (l.ak.length - kk)) y12] rfl rfl HXz2.out.1.there sizeLead (lead_one _ _ _ _ _ _ _ _ _ _ _) ?_)
            refine bodyPost_ret (ret_cell rfl rfl (HXz2.out.1.put l.st l.r l.m (.slice a5 l.ps.length c5) l.has l.val (.slice x12 (p0 + 1 + (l.ak.length - kk)) y12)).range Try.underlying27 rfl sizeLead) rfl ?_
            have hlo : LdO Z (w.heap.size + 1 + 1) (.slice a5 l.ps.length c5) (.slice x12 (p0 + 1 + (l.ak.length - kk)) y12) { l with ak := l.ak.take p0 ++ [n] ++ l.ak.drop kk } := ⟨HOz.out, HRz.out⟩
            rw [ack_ps l n HSt.out, HPut.out, HKk.out.2]
            have hap : l.ak.take p0 ++ n :: l.ak.drop kk = l.ak.take p0 ++ [n] ++ l.ak.drop kk := by simp
            rw [hap]
            exact ⟨_, _, rfl, (hlo.farC (N := w.heap.size + 1) (by omega) _ 0).mono (by omega), Below.setCells HXz2.out.2 (b := w.heap.size + 1) (by omega) 0 _⟩
  · have HSt := Lib.hid hst
    have hst' : l.has = false := by simpa using hst
    go_upto_region 3 with fail
    clear hst hst' l0 l1 l2 l3 l4 l5 l6
    obtain ⟨l0, l1, l2, l3, l4, l5, l6⟩ := HC6.out.cells
    go_wp2_with (refine wpList_store_mid rfl 27 _ _ rfl (w.heap.size + 1) 0 #[.int .i64 l.st, .int .i64 l.r, .int .i64 l.m, .slice a5 l.ps.length c5, .bool l.has, .string l.val, .slice b5 l.ak.length d5] rfl rfl HX6.out.two.there sizeLead (lead_one _ _ _ _ _ _ _ _ _ _ _) ?_)
    refine bodyPost_ret (ret_cell rfl rfl (HX6.out.two.put l.st l.r l.m (.slice a5 l.ps.length c5) l.has l.val (.slice b5 l.ak.length d5)).range Try.underlying27 rfl sizeLead) rfl ?_
    obtain ⟨hf1, hf2⟩ := HX6.out.fin HO6.out [.int .i64 l.st, .int .i64 l.r, .int .i64 l.m, .slice a5 l.ps.length c5, .bool l.has, .string l.val, .slice b5 l.ak.length d5]
    rw [ack_no l n HSt.out]; exact ⟨_, _, rfl, hf1, hf2⟩
end Go.Proofs.Ytcofmfjhgbihkaa.crush
