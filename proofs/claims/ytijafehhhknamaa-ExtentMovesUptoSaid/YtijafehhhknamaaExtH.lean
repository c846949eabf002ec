/- Sectors given back. -/
import Derived.Test.YtijafehhhknamaaRows
import Derived.Test.YtijafehhhknamaaExtG
import Derived.Test.YtijafehhhknamaaExtMath2
namespace Go.Proofs.Ytijafehhhknamaa.ext
open Go.RowKit Go.Sort
open Go.Proofs.Ytijafehhhknamaa.kit Go.Proofs.Ytijafehhhknamaa.own
set_option linter.unusedVariables false

/-- What Give tells. -/
def GiveR (t : Int) (free back r : List Wy) (c : Int) : Prop :=
  ((¬ ∀ x ∈ back, lieE t x = true) ∧ r = free ∧ c = 20) ∨
  ((∀ x ∈ back, lieE t x = true) ∧ (∃ k, 2 ≤ cnt (free ++ back) k) ∧ r = free ∧ c = 25) ∨
  ((∀ x ∈ back, lieE t x = true) ∧ (∀ k, cnt (free ++ back) k ≤ 1) ∧ c = 0 ∧ Pos r ∧ Gap r ∧ ∀ k, cov r k ↔ cov free k ∨ cov back k)
theorem GiveR_unique {t : Int} {free back r r' : List Wy} {c c' : Int} (h : GiveR t free back r c) (h' : GiveR t free back r' c') : r = r' ∧ c = c' := by
  rcases h with ⟨a1, rfl, rfl⟩ | ⟨a1, ⟨k, a2⟩, rfl, rfl⟩ | ⟨a1, a2, rfl, a3, a4, a5⟩ <;>
  rcases h' with ⟨b1, rfl, rfl⟩ | ⟨b1, ⟨k', b2⟩, rfl, rfl⟩ | ⟨b1, b2, rfl, b3, b4, b5⟩ <;>
  first
    | exact ⟨rfl, rfl⟩
    | exact absurd a1 b1
    | exact absurd b1 a1
    | (have := b2 k; omega)
    | (have := a2 k'; omega)
    | exact ⟨gap_unique _ _ a3 b3 a4 b4 fun k => (a5 k).trans (b5 k).symm, rfl⟩
/-- Two values are handed back: a row of the call's own and a number. -/
def RowN (w : World) (S : List Wy → Int → Prop) (e : Ending) (w' : World) : Prop := ∃ v r c, e = .returned (.tuple #[v, .int .i64 c]) ∧ Own wc 2 48 w' w.heap.size v r ∧ Below w.heap.size w w' ∧ S r c
theorem lie_fine {t : Int} (ht : rowE t = true) {xs : List Wy} (h : ∀ x ∈ xs, lieE t x = true) : ∀ x ∈ xs, Fine x := fun x hx => by
  have := sum_ok ht (h x hx)
  unfold Fine
  omega
theorem lie_ok {t : Int} (ht : rowE t = true) {xs : List Wy} (h : ∀ x ∈ xs, lieE t x = true) : ∀ x ∈ xs, Wy.Ok x := fun x hx => by
  have := sum_ok ht (h x hx)
  unfold Wy.Ok
  omega

set_option maxHeartbeats 8000000 in
set_option maxRecDepth 100000 in
theorem Give_any (t : Int) (va vb : Value) (free back : List Wy) (w : World) (ha : Sl wc 2 w va free) (hb : Sl wc 2 w vb back) (ht : rowE t = true) (hf : ∀ x ∈ free, lieE t x = true) (hok : ∀ x ∈ back, Wy.Ok x) (hl : (free.length + back.length) * 16 ≤ 140737488355328) :
    Calls Try.prog 15 #[.int .i64 t, va, vb] w (RowN w (GiveR t free back)) := by
  have HA := Lib.hid ha; have HBk := Lib.hid hb; have HLn := Lib.hid hl; have HF := Lib.hid hf; have HT := Lib.hid ht; have HOk := Lib.hid hok
  obtain ⟨a1, c1, rfl⟩ := ha.slice
  obtain ⟨a2, c2, rfl⟩ := hb.slice
  clear ha hb hl hf hok
  by_cases hlie : ∀ x ∈ back, lieE t x = true
  · have HE : Hid ((back.all fun x => rowE t && lieE t x) = true) := Lib.hid ((all_and t ht back).trans (List.all_eq_true.2 hlie))
    have HLi := Lib.hid hlie
    clear hlie ht
    go_enter Try.func15, Try.ntmps15
    go_upto_region 3 with (go_at_call 23; refine (allLie_any _ _ back _ HBk.out HOk.out).mono ?_; rintro e w1 ⟨rfl, hb1⟩; rw [HE.out]; have HB1 := Lib.hid hb1; clear hb1)
    have HA1 := Lib.hid (HA.out.keep HB1.out); have HBk1 := Lib.hid (HBk.out.keep HB1.out)
    go_wp2_with fail
    refine (rising_any _ _ free back _ HA1.out HBk1.out HLn.out).mono ?_
    rintro e w2 ⟨v2, zs, rfl, hp, hpw, ho2, hb2⟩
    have hfz : ∀ x ∈ zs, lieE t x = true := fun x hx => by
      rcases List.mem_append.1 (hp.mem_iff.1 hx) with h | h
      · exact HF.out x h
      · exact HLi.out x h
    have HFz := Lib.hid (lie_fine HT.out hfz)
    have hpos := lie_pos hfz
    have HB2 := Lib.hid (HB1.out.trans (hb2.mono HB1.out.size))
    have HS2 := Lib.hid (ho2.read wc_len)
    have hcnt : ∀ k, cnt zs k = cnt (free ++ back) k := fun k => hp.countP_eq (inE k)
    have HLz : Hid (zs.length * 16 ≤ 140737488355328) := Lib.hid (by rw [hp.length_eq, List.length_append]; exact HLn.out)
    obtain ⟨x2, y2, rfl⟩ := ho2.slice
    cases hov : overE zs with
    | true =>
      have HR : Hid (∃ k, 2 ≤ cnt (free ++ back) k) := Lib.hid (by
        obtain ⟨k, hk⟩ := over_two zs hpos hpw hov
        exact ⟨k, by rw [← hcnt]; exact hk⟩)
      have HO := Lib.hid hov
      clear hfz hpos hcnt hp hpw ho2 hb2 hov
      go_upto_region 5 with (go_at_call 34; refine (overlap_any _ zs _ HS2.out HFz.out).mono ?_; rintro e w3 ⟨rfl, hb3⟩; rw [HO.out]; have HB3 := Lib.hid (HB2.out.trans (hb3.mono HB2.out.size)); clear hb3)
      have HA3 := Lib.hid (HA.out.keep HB3.out)
      have HLf : Hid (free.length * 16 ≤ 140737488355328) := Lib.hid (by have := HLn.out; omega)
      go_wp2_with (go_at_call 26; refine (cloneW_any _ free _ HA3.out HLf.out).mono ?_; rintro e w4 ⟨v4, rfl, ho4, hb4⟩; have HO4 := Lib.hid (ho4.mono HB3.out.size); have HB4 := Lib.hid (HB3.out.trans (hb4.mono HB3.out.size)); clear ho4 hb4)
      go_ret2
      exact ⟨_, free, 25, rfl, HO4.out, HB4.out, .inr (.inl ⟨HLi.out, HR.out, rfl, rfl⟩)⟩
    | false =>
      have hflat := over_flat zs hpos hpw hov
      have hj := join_joined zs hpos hflat
      have HR : Hid (GiveR t free back (joinE zs) 0) := Lib.hid (.inr (.inr ⟨HLi.out, fun k => by rw [← hcnt]; exact flat_cnt zs hpos hflat k, rfl, hj.pos, hj.gap, fun k => by
        rw [hj.cov k, cov_cnt, hcnt, ← cov_cnt, cov_append]⟩))
      have HO := Lib.hid hov
      clear hfz hpos hcnt hp hpw ho2 hb2 hov hj hflat
      go_upto_region 6 with (go_at_call 34; refine (overlap_any _ zs _ HS2.out HFz.out).mono ?_; rintro e w3 ⟨rfl, hb3⟩; rw [HO.out]; have HS3 := Lib.hid (HS2.out.keep hb3); have HB3 := Lib.hid (HB2.out.trans (hb3.mono HB2.out.size)); clear hb3)
      go_wp2_with (go_at_call 35; refine (joined_any _ zs _ HS3.out HFz.out HLz.out).mono ?_; rintro e w4 ⟨v4, rfl, ho4, hb4⟩; have HO4 := Lib.hid (ho4.mono HB3.out.size); have HB4 := Lib.hid (HB3.out.trans (hb4.mono HB3.out.size)); clear ho4 hb4)
      go_ret2
      exact ⟨_, _, 0, rfl, HO4.out, HB4.out, HR.out⟩
  · have HE : Hid ((back.all fun x => rowE t && lieE t x) = false) := Lib.hid (by
      rw [all_and t ht back, Bool.eq_false_iff]
      intro h
      exact hlie (List.all_eq_true.1 h))
    have HLi := Lib.hid hlie
    have HLf : Hid (free.length * 16 ≤ 140737488355328) := Lib.hid (by have := HLn.out; omega)
    clear hlie ht
    go_enter Try.func15, Try.ntmps15
    go_upto_region 2 with (go_at_call 23; refine (allLie_any _ _ back _ HBk.out HOk.out).mono ?_; rintro e w1 ⟨rfl, hb1⟩; rw [HE.out]; have HB1 := Lib.hid hb1; clear hb1)
    have HA3 := Lib.hid (HA.out.keep HB1.out)
    go_wp2_with (go_at_call 26; refine (cloneW_any _ free _ HA3.out HLf.out).mono ?_; rintro e w4 ⟨v4, rfl, ho4, hb4⟩; have HO4 := Lib.hid (ho4.mono HB1.out.size); have HB4 := Lib.hid (HB1.out.trans (hb4.mono HB1.out.size)); clear ho4 hb4)
    go_ret2
    exact ⟨_, free, 20, rfl, HO4.out, HB4.out, .inl ⟨HLi.out, rfl, rfl⟩⟩

/-- What Claim tells. -/
def ClaimR (t : Int) (free want r : List Wy) (c : Int) : Prop :=
  ((¬ ∀ x ∈ want, lieE t x = true) ∧ r = free ∧ c = 20) ∨
  ((∀ x ∈ want, lieE t x = true) ∧ (∃ k, cov want k ∧ (¬ cov free k ∨ 2 ≤ cnt want k)) ∧ r = free ∧ c = 24) ∨
  ((∀ x ∈ want, lieE t x = true) ∧ (∀ k, cov want k → cov free k ∧ cnt want k ≤ 1) ∧ c = 0 ∧ Pos r ∧ Gap r ∧ ∀ k, cov r k ↔ cov free k ∧ ¬ cov want k)
theorem ClaimR_unique {t : Int} {free want r r' : List Wy} {c c' : Int} (h : ClaimR t free want r c) (h' : ClaimR t free want r' c') : r = r' ∧ c = c' := by
  rcases h with ⟨a1, rfl, rfl⟩ | ⟨a1, ⟨k, a2, a2'⟩, rfl, rfl⟩ | ⟨a1, a2, rfl, a3, a4, a5⟩ <;>
  rcases h' with ⟨b1, rfl, rfl⟩ | ⟨b1, ⟨k', b2, b2'⟩, rfl, rfl⟩ | ⟨b1, b2, rfl, b3, b4, b5⟩ <;>
  first
    | exact ⟨rfl, rfl⟩
    | exact absurd a1 b1
    | exact absurd b1 a1
    | (have := b2 k a2; rcases a2' with h | h <;> first | exact absurd this.1 h | omega)
    | (have := a2 k' b2; rcases b2' with h | h <;> first | exact absurd this.1 h | omega)
    | exact ⟨gap_unique _ _ a3 b3 a4 b4 fun k => (a5 k).trans (b5 k).symm, rfl⟩
/-- Claim by Give to what is not free. -/
theorem claim_give {t : Int} {free want oo r r2 : List Wy} {c : Int} (hf : ∀ x ∈ free, lieE t x = true) (po : Pos oo) (go : Gap oo) (ho : ∀ k, cov oo k ↔ (0 ≤ k ∧ k < t) ∧ ¬ cov free k) (h : GiveR t oo want r c) (hr2 : Pos r2 ∧ Gap r2 ∧ ∀ k, cov r2 k ↔ (0 ≤ k ∧ k < t) ∧ ¬ cov r k) :
    (c = 20 ∧ ClaimR t free want free 20) ∨ (c = 25 ∧ ClaimR t free want free 24) ∨ (c = 0 ∧ ClaimR t free want r2 0) := by
  have h1 : ∀ k, cnt oo k ≤ 1 := flat_cnt oo po go.flat
  rcases h with ⟨a1, rfl, rfl⟩ | ⟨a1, ⟨k, a2⟩, rfl, rfl⟩ | ⟨a1, a2, rfl, a3, a4, a5⟩
  · exact .inl ⟨rfl, .inl ⟨a1, rfl, rfl⟩⟩
  · refine .inr (.inl ⟨rfl, .inr (.inl ⟨a1, ⟨k, ?_⟩, rfl, rfl⟩)⟩)
    rw [cnt_append] at a2
    have := h1 k
    have hw : cov want k := (cov_cnt want k).2 (by omega)
    refine ⟨hw, ?_⟩
    by_cases h2 : 2 ≤ cnt want k
    · exact .inr h2
    · have : cov r k := (cov_cnt r k).2 (by omega)
      exact .inl ((ho k).1 this).2
  · refine .inr (.inr ⟨rfl, .inr (.inr ⟨a1, fun k hk => ?_, rfl, hr2.1, hr2.2.1, fun k => ?_⟩)⟩)
    · have h2 := a2 k
      rw [cnt_append] at h2
      have h3 := (cov_cnt want k).1 hk
      refine ⟨?_, by omega⟩
      by_cases hc : cov free k
      · exact hc
      · have := (cov_cnt oo k).1 ((ho k).2 ⟨cov_lie a1 k hk, hc⟩)
        omega
    · rw [hr2.2.2 k, a5 k, ho k]
      constructor
      · rintro ⟨h2, h3⟩
        refine ⟨?_, fun h4 => h3 (.inr h4)⟩
        by_cases hc : cov free k
        · exact hc
        · exact absurd (.inl ⟨h2, hc⟩) h3
      · rintro ⟨h2, h3⟩
        refine ⟨cov_lie hf k h2, ?_⟩
        rintro (h4 | h4)
        · exact h4.2 h2
        · exact h3 h4
theorem row_len {t : Int} (ht : rowE t = true) {xs : List Wy} (hp : Pos xs) (hg : Gap xs) (hl : ∀ x ∈ xs, lieE t x = true) : xs.length ≤ 65536 := by
  simp [rowE] at ht
  have := gap_len xs t 0 hp hg (fun x hx => by have := (lieE_iff t x).1 (hl x hx); omega) ht.1
  omega

set_option maxHeartbeats 8000000 in
set_option maxRecDepth 100000 in
theorem Claim_any (t : Int) (va vb : Value) (free want : List Wy) (w : World) (ha : Sl wc 2 w va free) (hb : Sl wc 2 w vb want) (ht : rowE t = true) (hf : ∀ x ∈ free, lieE t x = true) (hg : Gap free) (hok : ∀ x ∈ want, Wy.Ok x) (hl : (want.length + 100000) * 16 ≤ 140737488355328) :
    Calls Try.prog 17 #[.int .i64 t, va, vb] w (RowN w (ClaimR t free want)) := by
  have hpf := lie_pos hf
  have hfl := row_len ht hpf hg hf
  have ht' : 0 ≤ t ∧ t ≤ 65536 := by simpa [rowE] using ht
  obtain ⟨op, og, -, oc⟩ := oth_gap t 0 free hpf hg (fun x hx => by have := (lieE_iff t x).1 (hf x hx); omega)
  have ol := lie_of_cov op (fun k hk => ((oc k).1 hk).1)
  have oll := row_len ht op og ol
  have HA := Lib.hid ha; have HBk := Lib.hid hb; have HF := Lib.hid hf; have HT := Lib.hid ht; have HOk := Lib.hid hok; have HT' := Lib.hid ht'
  have HO := Lib.hid (others_any t va free w ha ht' (lie_fine ht hf) (by omega))
  have HL1 : Hid (((othR t 0 free).length + want.length) * 16 ≤ 140737488355328) := Lib.hid (by omega)
  have HL2 : Hid (free.length * 16 ≤ 140737488355328) := Lib.hid (by omega)
  have HOp := Lib.hid op; have HOg := Lib.hid og; have HOc := Lib.hid oc; have HOl := Lib.hid ol
  obtain ⟨a1, c1, rfl⟩ := ha.slice
  obtain ⟨a2, c2, rfl⟩ := hb.slice
  clear ha hb hl hf hok ht hpf hfl hg op og oc ol oll ht'
  go_enter Try.func17, Try.ntmps17
  go_wp2_with fail
  refine HO.out.mono ?_
  rintro e w1 ⟨v1, rfl, ho1, hb1⟩
  have HB1 := Lib.hid hb1
  have HS1 := Lib.hid (ho1.read wc_len)
  have HBk1 := Lib.hid (HBk.out.keep hb1)
  generalize othR t 0 free = o at HS1 HL1 HOp HOg HOc HOl
  clear ho1 hb1
  go_wp2_with fail
  refine (Give_any t _ _ o want _ HS1.out HBk1.out HT.out HOl.out HOk.out HL1.out).mono ?_
  rintro e w2 ⟨v2, r, c, rfl, ho2, hb2, hr⟩
  have HB2 := Lib.hid (HB1.out.trans (hb2.mono HB1.out.size))
  have HS2 := Lib.hid (ho2.read wc_len)
  have HA2 := Lib.hid (HA.out.keep HB2.out)
  have HR := Lib.hid hr
  obtain ⟨x2, y2, rfl⟩ := ho2.slice
  clear ho2 hb2
  by_cases hc : c = 0
  · subst hc
    have hr' : Pos r ∧ Gap r ∧ ∀ x ∈ r, lieE t x = true := by
      rcases hr with ⟨_, _, h⟩ | ⟨_, _, _, h⟩ | ⟨a1, a2, _, a3, a4, a5⟩
      · cases h
      · cases h
      · exact ⟨a3, a4, lie_of_cov a3 fun k hk => by
          rcases (a5 k).1 hk with h | h
          · exact cov_lie HOl.out k h
          · exact cov_lie a1 k h⟩
    obtain ⟨rp, rg, rl⟩ := hr'
    have hrl := row_len HT.out rp rg rl
    obtain ⟨sp, sg, -, sc⟩ := oth_gap t 0 r rp rg (fun x hx => by have := (lieE_iff t x).1 (rl x hx); omega)
    have HD : Hid (ClaimR t free want (othR t 0 r) 0) := Lib.hid (by
      rcases claim_give HF.out HOp.out HOg.out HOc.out hr ⟨sp, sg, sc⟩ with ⟨h, _⟩ | ⟨h, _⟩ | ⟨_, h⟩
      · cases h
      · cases h
      · exact h)
    have HFr := Lib.hid (lie_fine HT.out rl)
    have HLr : Hid ((r.length + 1) * 16 ≤ 140737488355328) := Lib.hid (by omega)
    clear hr rp rg rl hrl sp sg sc
    go_wp2_with (go_at_call 25; refine (others_any t _ r _ HS2.out HT'.out HFr.out HLr.out).mono ?_; rintro e w3 ⟨v3, rfl, ho3, hb3⟩; have HO3 := Lib.hid (ho3.mono HB2.out.size); have HB3 := Lib.hid (HB2.out.trans (hb3.mono HB2.out.size)); clear ho3 hb3)
    go_ret2
    exact ⟨_, _, 0, rfl, HO3.out, HB3.out, HD.out⟩
  · have hd : (c = 20 ∧ ClaimR t free want free 20) ∨ (c = 25 ∧ ClaimR t free want free 24) := by
      rcases hr with ⟨a1, a2, rfl⟩ | ⟨a1, a2, a3, rfl⟩ | ⟨_, _, h, _⟩
      · exact .inl ⟨rfl, .inl ⟨a1, rfl, rfl⟩⟩
      · subst a3
        have hid : Pos (othR t 0 r) ∧ Gap (othR t 0 r) ∧ ∀ k, cov (othR t 0 r) k ↔ (0 ≤ k ∧ k < t) ∧ ¬ cov r k := by
          obtain ⟨sp, sg, -, sc⟩ := oth_gap t 0 r HOp.out HOg.out (fun x hx => by have := (lieE_iff t x).1 (HOl.out x hx); omega)
          exact ⟨sp, sg, sc⟩
        rcases claim_give HF.out HOp.out HOg.out HOc.out (.inr (.inl ⟨a1, a2, rfl, rfl⟩)) hid with ⟨h, _⟩ | ⟨_, h⟩ | ⟨h, _⟩
        · cases h
        · exact .inr ⟨rfl, h⟩
        · cases h
      · exact absurd h hc
    clear hr
    rcases hd with ⟨rfl, hd⟩ | ⟨rfl, hd⟩
    · have HD := Lib.hid hd
      clear hd hc
      go_wp2_with (go_at_call 26; refine (cloneW_any _ free _ HA2.out HL2.out).mono ?_; rintro e w4 ⟨v4, rfl, ho4, hb4⟩; have HO4 := Lib.hid (ho4.mono HB2.out.size); have HB4 := Lib.hid (HB2.out.trans (hb4.mono HB2.out.size)); clear ho4 hb4)
      go_ret2
      exact ⟨_, free, 20, rfl, HO4.out, HB4.out, HD.out⟩
    · have HD := Lib.hid hd
      clear hd hc
      go_wp2_with (go_at_call 26; refine (cloneW_any _ free _ HA2.out HL2.out).mono ?_; rintro e w4 ⟨v4, rfl, ho4, hb4⟩; have HO4 := Lib.hid (ho4.mono HB2.out.size); have HB4 := Lib.hid (HB2.out.trans (hb4.mono HB2.out.size)); clear ho4 hb4)
      go_ret2
      exact ⟨_, free, 24, rfl, HO4.out, HB4.out, HD.out⟩

set_option maxHeartbeats 4000000 in
theorem All_any (t : Int) (w : World) : Calls Try.prog 9 #[.int .i64 t] w (RowS w (allE t)) := by
  cases ht : rowE t with
  | false => 
    have HE : Hid (allE t = []) := Lib.hid (by simp [rowE] at ht; unfold allE; rw [if_neg (by omega)])
    rw [HE.out]
    have HT := Lib.hid ht
    have HO := Lib.hid (Own.nil (enc := wc) (k := 2) w 48 w.heap.size)
    clear ht
    go_enter Try.func9, Try.ntmps9
    go_wp2_with (go_at_call 22; refine (isRow_any _ _).mono ?_; rintro e w' ⟨rfl, rfl⟩; rw [HT.out])
    go_ret
    exact ⟨_, rfl, HO.out, Below.refl _ _⟩
  | true =>
    have ht' : 0 ≤ t ∧ t ≤ 65536 := by simpa [rowE] using ht
    have HE : Hid (othR t 0 [] = allE t) := Lib.hid (by
      unfold allE; rw [othR]
      by_cases h : 0 < t
      · rw [if_pos h, if_pos (by omega), Int.sub_zero]
      · rw [if_neg h, if_neg (by omega)])
    have HO := Lib.hid (others_any t (.slice none 0 0) [] w (Sl.nil w) ht' (fun x hx => by cases hx) (by simp))
    rw [HE.out] at HO
    have HT := Lib.hid ht
    clear ht ht'
    go_enter Try.func9, Try.ntmps9
    go_wp2_with (first
      | (go_at_call 22; refine (isRow_any _ _).mono ?_; rintro e w' ⟨rfl, rfl⟩; rw [HT.out])
      | (go_at_call 25; refine HO.out.mono ?_; rintro e w1 ⟨v1, rfl, ho1, hb1⟩; have HO1 := Lib.hid ho1; have HB1 := Lib.hid hb1; clear ho1 hb1))
    go_ret
    exact ⟨_, rfl, HO1.out, HB1.out⟩

end Go.Proofs.Ytijafehhhknamaa.ext
