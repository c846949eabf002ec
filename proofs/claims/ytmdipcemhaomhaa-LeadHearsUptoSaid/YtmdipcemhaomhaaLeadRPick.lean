/- The document's Begin, Enough, Pick. -/
import Derived.Test.YtmdipcemhaomhaaRows
import Derived.Test.YtmdipcemhaomhaaLeadMaj
import Derived.Test.YtmdipcemhaomhaaLeadPick
import Derived.Test.YtmdipcemhaomhaaLeadRNext
import Derived.Test.YtmdipcemhaomhaaLeadEq
import Derived.Test.YtmdipcemhaomhaaLeadRLater
import Derived.Deep.RegionHeld3
namespace Go.Proofs.Ytmdipcemhaomhaa.crush
open Go.RowKit
open Go.Proofs.Ytmdipcemhaomhaa.kit Go.Proofs.Ytmdipcemhaomhaa.own
set_option linter.unusedVariables false
set_option linter.unusedSimpArgs false

set_option maxHeartbeats 8000000 in
set_option maxRecDepth 100000 in
theorem rBegin_any (b : BalV) (p : PromV) (w : World) : Calls Try.prog 33 #[b.val, .agg (prc p).toArray] w (LdS w (beginE b p)) := by
  have h3 := three_atL w (.cells #[.int .i64 b.r, .int .i64 b.m] 23) (.cells #[.int .i64 p.mon, .int .i64 p.n, .bool p.has, .int .i64 p.ar, .int .i64 p.am, .string p.val] 37) (.cells #[.int .i64 0, .int .i64 0, .int .i64 0, .slice none 0 0, .bool false, .string { data := #[] }, .slice none 0 0] 67)
  have hb : Below w.heap.size w (((w.alloc (.cells #[.int .i64 b.r, .int .i64 b.m] 23)).alloc (.cells #[.int .i64 p.mon, .int .i64 p.n, .bool p.has, .int .i64 p.ar, .int .i64 p.am, .string p.val] 37)).alloc (.cells #[.int .i64 0, .int .i64 0, .int .i64 0, .slice none 0 0, .bool false, .string { data := #[] }, .slice none 0 0] 67)) := ((below_new w _).alloc (by simp) _).alloc (by simp; omega) _
  have hs : (((w.alloc (.cells #[.int .i64 b.r, .int .i64 b.m] 23)).alloc (.cells #[.int .i64 p.mon, .int .i64 p.n, .bool p.has, .int .i64 p.ar, .int .i64 p.am, .string p.val] 37)).alloc (.cells #[.int .i64 0, .int .i64 0, .int .i64 0, .slice none 0 0, .bool false, .string { data := #[] }, .slice none 0 0] 67)).heap.size = w.heap.size + 1 + 1 + 1 := by rw [World.size_alloc, World.size_alloc, World.size_alloc]
  have HB := Lib.hid hb; have HS := Lib.hid hs; have HA := Lib.hid h3
  clear hb hs h3
  unfold BalV.val prc
  go_enter Try.func33, Try.ntmps33
  go_upto_region 1 with fail
  generalize ((w.alloc (.cells #[.int .i64 b.r, .int .i64 b.m] 23)).alloc (.cells #[.int .i64 p.mon, .int .i64 p.n, .bool p.has, .int .i64 p.ar, .int .i64 p.am, .string p.val] 37)).alloc (.cells #[.int .i64 0, .int .i64 0, .int .i64 0, .slice none 0 0, .bool false, .string { data := #[] }, .slice none 0 0] 67) = W at HB HS HA ⊢
  obtain ⟨k1, k2, k3⟩ := HA.out
  have c0 : W.cell? ⟨w.heap.size, 0, none⟩ = some (.int .i64 b.r) := by simp [World.cell?, k1]
  have c1 : W.cell? ⟨w.heap.size, 1, none⟩ = some (.int .i64 b.m) := by simp [World.cell?, k1]
  have d0 : W.cell? ⟨w.heap.size + 1, 0, none⟩ = some (.int .i64 p.mon) := by simp [World.cell?, k2]
  have d1 : W.cell? ⟨w.heap.size + 1, 1, none⟩ = some (.int .i64 p.n) := by simp [World.cell?, k2]
  have d2 : W.cell? ⟨w.heap.size + 1, 2, none⟩ = some (.bool p.has) := by simp [World.cell?, k2]
  have d3 : W.cell? ⟨w.heap.size + 1, 3, none⟩ = some (.int .i64 p.ar) := by simp [World.cell?, k2]
  have d4 : W.cell? ⟨w.heap.size + 1, 4, none⟩ = some (.int .i64 p.am) := by simp [World.cell?, k2]
  have d5 : W.cell? ⟨w.heap.size + 1, 5, none⟩ = some (.string p.val) := by simp [World.cell?, k2]
  have hx : LBox W (w.heap.size + 1 + 1) 0 0 0 (.slice none 0 0) false { data := #[] } (.slice none 0 0) := k3
  have HX := Lib.hid (hx.keep (below_new W (.cells #[.int .i64 p.mon, .int .i64 p.n, .bool p.has, .int .i64 p.ar, .int .i64 p.am, .string p.val] 37)))
  have HR := Lib.hid (one_rowP (w := W) (B := w.heap.size + 1 + 1 + 1) (by rw [HS.out]; exact Nat.le_refl _) p)
  have HB2 := Lib.hid (HB.out.trans ((below_new W (.cells #[.int .i64 p.mon, .int .i64 p.n, .bool p.has, .int .i64 p.ar, .int .i64 p.am, .string p.val] 37)).mono HB.out.size))
  clear k1 k2 k3 HA hx
  go_wp2_with (refine wpList_store_mid rfl 67 _ _ rfl (w.heap.size + 1 + 1) 0 #[.int .i64 1, .int .i64 b.r, .int .i64 b.m, .slice (some ⟨W.heap.size, 0, none⟩) 1 1, .bool false, .string { data := #[] }, .slice none 0 0] rfl rfl HX.out.there sizeLead (lead_one _ _ _ _ _ _ _ _ _ _ _) ?_)
  refine bodyPost_ret (ret_cell rfl rfl (HX.out.put 1 b.r b.m (.slice (some ⟨W.heap.size, 0, none⟩) 1 1) false { data := #[] } (.slice none 0 0)).range Try.underlying67 rfl sizeLead) rfl ?_
  exact ⟨_, _, rfl, ⟨(Own.farCL (N := w.heap.size + 1 + 1) (by omega) _ 0 HR.out).mono (by omega), Own.nil _ _ _⟩, Below.setCells HB2.out (b := w.heap.size + 1 + 1) (by omega) 0 _⟩


set_option maxHeartbeats 4000000 in
set_option maxRecDepth 100000 in
theorem rEnough_any (v : Value) (l : LeadV) (n : Int) (w : World) (h : LdR w v l) (hn : I64 n) : Calls Try.prog 40 #[v, .int .i64 n] w fun e w' => e = .returned (.bool (l.enough n)) ∧ Below w.heap.size w w' := by
  obtain ⟨s, t, rfl, hs, ht⟩ := h
  obtain ⟨sa, sc, rfl⟩ := hs.slice
  obtain ⟨ta, tc, rfl⟩ := ht.slice
  have HM := Lib.hid (fun u => rMost_any n hn u)
  have HB := Lib.hid (below_drew (below_new w (.cells #[.int .i64 l.st, .int .i64 l.r, .int .i64 l.m, .slice sa l.ps.length sc, .bool l.has, .string l.val, .slice ta l.ak.length tc] 67)))
  have HX := Lib.hid (lbox_new w l.st l.r l.m (.slice sa l.ps.length sc) l.has l.val (.slice ta l.ak.length tc))
  clear hs ht hn
  unfold LeadV.agg LeadV.enough majB
  generalize mostN n = q at HM ⊢
  go_enter Try.func40, Try.ntmps40
  go_upto_region 1 with fail
  generalize w.alloc _ = W at HB HX ⊢
  have HXd := Lib.hid (HX.out.keep (below_drew (Below.refl _ _)))
  obtain ⟨c0, c1, c2, c3, c4, c5, c6⟩ := HXd.out.cells
  by_cases h1 : 1 ≤ n
  · have h1' : 0 < n := by omega
    by_cases h2 : l.st = 1
    · have h2' : True → (l.st == 1) = true := fun _ => by simp [h2]
      have HS := Lib.hid h2
      clear h2
      go_region_held3 (fun u => u.cell? ⟨w.heap.size, 0, none⟩ = some (.int .i64 l.st) ∧ u.cell? ⟨w.heap.size, 3, none⟩ = some (.slice sa l.ps.length sc))
        (exact ⟨c0, c3⟩)
        (first | (go_at_call 28; refine (HM.out _).mono ?_; rintro e w' ⟨rfl, rfl⟩))
      go_wp2
      go_ret
      exact ⟨by simp [HS.out, h1'], HB.out⟩
    · have h2' : True → (l.st == 1) = false := fun _ => by simp [h2]
      have HS := Lib.hid h2
      clear h2
      go_region
      go_wp2
      go_ret
      exact ⟨by simp [HS.out], HB.out⟩
  · have h1' : ¬ 0 < n := by omega
    go_region
    go_wp2
    go_ret
    exact ⟨by have h9 : ¬ 0 < n := by omega
              simp [h9], HB.out⟩

theorem bestP_keep (n : Int) : ∀ (l : List PromV) (b : PromV), (bestP n b l).has = false → bestP n b l = b
  | [], b, _ => rfl
  | p :: l, b, h => by
    rw [bestP] at h ⊢
    have := bestP_keep n l _ h
    rw [this] at h ⊢
    split at h
    case isTrue hc => rw [hc.2.1] at h; cases h
    case isFalse hc => rw [if_neg hc]

set_option maxHeartbeats 16000000 in
set_option maxRecDepth 100000 in
theorem rPick_any (v : Value) (l : LeadV) (n : Int) (w : World) (h : LdR w v l) (hl : l.Small) : Calls Try.prog 42 #[v, .int .i64 n] w fun e w' => e = .returned (.tuple #[.string (bestP n noP l.ps).val, .bool (bestP n noP l.ps).has]) ∧ Below w.heap.size w w' := by
  obtain ⟨s, t, rfl, hs, ht⟩ := h
  have HSl := Lib.hid (fun u (hu : Below w.heap.size w u) => hs.keep hu)
  have hlm := hl.1
  obtain ⟨sa, sc, rfl⟩ := hs.slice
  obtain ⟨ta, tc, rfl⟩ := ht.slice
  obtain ⟨T, hT⟩ : ∃ T, bestP n noP l.ps = T := ⟨_, rfl⟩
  have HT := Lib.hid hT
  have HTk : Hid (T.has = false → T = noP) := Lib.hid (fun h => by rw [← hT] at h ⊢; exact bestP_keep _ _ _ h)
  rw [hT]
  have HLt := Lib.hid (fun r m r' m' u => rLater_any r m r' m' u)
  have HX := Lib.hid (lbox_new w l.st l.r l.m (.slice sa l.ps.length sc) l.has l.val (.slice ta l.ak.length tc))
  have HB := Lib.hid (below_new w (.cells #[.int .i64 l.st, .int .i64 l.r, .int .i64 l.m, .slice sa l.ps.length sc, .bool l.has, .string l.val, .slice ta l.ak.length tc] 67))
  obtain ⟨K, hK⟩ : ∃ k, l.ps.length = k := ⟨_, rfl⟩
  have HK := Lib.hid hK
  unfold LeadV.agg
  rw [hK] at HSl HX HB hlm ⊢
  clear hs ht hT hl hK
  go_enter Try.func42, Try.ntmps42
  go_upto_region 1 with fail
  generalize w.alloc _ = W at HB HX ⊢
  go_upto_region 2 with fail
  have hbn := below_new W (.cells #[.int .i64 0, .int .i64 0, .bool false, .int .i64 0, .int .i64 0, .string { data := #[] }] 37)
  have HX2 := Lib.hid (HX.out.keep hbn)
  have HB2 := Lib.hid (HB.out.trans (hbn.mono HB.out.size))
  have HP2 : Hid (PrBox (W.alloc (.cells #[.int .i64 0, .int .i64 0, .bool false, .int .i64 0, .int .i64 0, .string { data := #[] }] 37)) W.heap.size noP) := Lib.hid (alloc_at W _)
  have HN2 := Lib.hid (show w.heap.size < W.heap.size from HX.out.lt)
  clear hbn HX HB
  generalize W.alloc _ = W2 at HX2 HB2 HP2 ⊢
  generalize W.heap.size = M at HP2 HN2 ⊢
  go_wp2
  go_loopw [7, 8] (fun vi v8 wr => ∃ k : Nat, k ≤ K ∧ vi = .int .i64 k ∧ Hid (LBox wr w.heap.size l.st l.r l.m (.slice sa K sc) l.has l.val (.slice ta l.ak.length tc)) ∧ Hid (PrBox wr M (bestP n noP (l.ps.take k))) ∧ Below w.heap.size w wr) (fun i _ _ => K - (intOf i).toNat)
  case atStart => exact ⟨0, Nat.zero_le _, rfl, HX2, by rw [List.take_zero]; exact HP2, HB2.out⟩
  case round =>
    obtain ⟨k, hk, rfl, HXr, HPr, hbw⟩ := hrel
    have HBr := Lib.hid hbw
    obtain ⟨c0, c1, c2, c3, c4, c5, c6⟩ := HXr.out.cells
    by_cases hlt : k < K
    · have hlt' : (k : Int) < K := by omega
      have hk0 : (0 : Int) ≤ k := by omega
      have h1 : k < l.ps.length := by rw [HK.out]; exact hlt
      obtain ⟨b1, o1, z1, hl3, hr1⟩ := sl_elem (HSl.out _ hbw) k h1
      cases z1
      have HSt : Hid (bestP n noP (l.ps.take (k + 1)) = stepP n (bestP n noP (l.ps.take k)) l.ps[k]) := Lib.hid (bestP_take h1)
      obtain ⟨x, hx⟩ : ∃ x, l.ps[k] = x := ⟨_, rfl⟩
      rw [hx] at hr1 HSt
      generalize bestP n noP (l.ps.take k) = b at HPr HSt
      obtain ⟨xm, xn, xh, xr, xa, xt⟩ := x
      have e0 := hr1 0 _ rfl
      have e1 := hr1 1 _ rfl
      have e2 := hr1 2 _ rfl
      have e3 := hr1 3 _ rfl
      have e4 := hr1 4 _ rfl
      have e5 := hr1 5 _ rfl
      simp only [Nat.add_zero] at e0
      try simp only at HSt
      clear hbw hl3 hr1 hx h1
      go_upto_region 6 with fail
      have hbn := below_new wr (.cells #[.int .i64 xm, .int .i64 xn, .bool xh, .int .i64 xr, .int .i64 xa, .string xt] 37)
      have hz5 : PrBox (wr.alloc (.cells #[.int .i64 xm, .int .i64 xn, .bool xh, .int .i64 xr, .int .i64 xa, .string xt] 37)) wr.heap.size ⟨xm, xn, xh, xr, xa, xt⟩ := alloc_at wr _
      have HX5 := Lib.hid (HXr.out.keep hbn)
      have hp5 : PrBox (wr.alloc (.cells #[.int .i64 xm, .int .i64 xn, .bool xh, .int .i64 xr, .int .i64 xa, .string xt] 37)) M b := (hbn.block _ HPr.out.lt).trans HPr.out
      have HB5 := Lib.hid (HBr.out.trans (hbn.mono HBr.out.size))
      clear hbn e0 e1 e2 e3 e4 e5 c0 c1 c2 c3 c4 c5 c6 HXr HPr
      generalize wr.alloc _ = V at hz5 hp5 HX5 HB5 ⊢
      generalize wr.heap.size = Z at hz5 ⊢
      obtain ⟨k0, k1, k2, k3, k4, k5⟩ := hp5.cells
      obtain ⟨z0, z1, z2, z3, z4, z5⟩ := hz5.cells
      have HP5 := Lib.hid hp5
      have HZ5 := Lib.hid hz5
      clear hp5 hz5
      by_cases hn : xn = n
      · have hn' : True → (xn == n) = true := fun _ => by simp [hn]
        have HNn := Lib.hid hn
        clear hn
        cases xh with
        | false =>
          have HS6 : Hid (PrBox V M (bestP n noP (l.ps.take (k + 1)))) := Lib.hid (by rw [HSt.out, stepP, if_neg (fun h => by have := h.2.1; cases this)]; exact HP5.out)
          go_wp2
          go_roundw
          case rel => exact ⟨k + 1, by omega, by go_num, HX5, HS6, HB5.out⟩
          case measure => simp [intOf]; omega
        | true =>
          obtain ⟨bq, hbq⟩ : ∃ q, b.has = q := ⟨_, rfl⟩
          have HBq := Lib.hid hbq
          rw [hbq] at k2
          clear hbq
          cases bq with
          | false =>
            have HS6 : Hid (bestP n noP (l.ps.take (k + 1)) = ⟨xm, xn, true, xr, xa, xt⟩) := Lib.hid (by rw [HSt.out, stepP, if_pos ⟨HNn.out, rfl, .inl HBq.out⟩])
            have HP7 := Lib.hid (HP5.out.put ⟨xm, xn, true, xr, xa, xt⟩)
            have HX7 : Hid (LBox (V.setCells M 0 [.int .i64 xm, .int .i64 xn, .bool true, .int .i64 xr, .int .i64 xa, .string xt]) w.heap.size l.st l.r l.m (.slice (some ⟨b1, o1, none⟩) K sc) l.has l.val (.slice ta l.ak.length tc)) := Lib.hid ((heap_setCells_other M _ 0 _ _ (by have := HN2.out; omega)).trans HX5.out)
            have HB7 := Lib.hid (Below.setCells HB5.out (b := M) (by have := HN2.out; omega) 0 [.int .i64 xm, .int .i64 xn, .bool true, .int .i64 xr, .int .i64 xa, .string xt])
            go_upto_region 7 with fail
            refine wp_region_list ?_
            refine wpList_load_mid rfl 37 _ rfl Z 0 rfl [.int .i64 xm, .int .i64 xn, .bool true, .int .i64 xr, .int .i64 xa, .string xt] _ HZ5.out.range Try.underlying37 rfl sizePr ?_
            (refine wpList_store_mid rfl 37 _ _ rfl M 0 #[.int .i64 xm, .int .i64 xn, .bool true, .int .i64 xr, .int .i64 xa, .string xt] rfl rfl HP5.out.there sizePr (by simp [Value.oneCell']) ?_)
            refine wpList_nil ?_
            clear k0 k1 k2 k3 k4 k5 z0 z1 z2 z3 z4 z5
            go_wp2
            go_roundw
            case rel => exact ⟨k + 1, by omega, by go_num, Lib.hid HX7.out, Lib.hid (by rw [HS6.out]; exact HP7.out), HB7.out⟩
            case measure => simp [intOf]; omega
          | true =>
            have HLz := Lib.hid (fun u => HLt.out xr xa b.ar b.am u)
            obtain ⟨lq, hlq⟩ : ∃ q, laterB xr xa b.ar b.am = q := ⟨_, rfl⟩
            have HLq := Lib.hid hlq
            rw [hlq] at HLz
            clear hlq
            cases lq with
            | false =>
              have HS6 : Hid (bestP n noP (l.ps.take (k + 1)) = b) := Lib.hid (by rw [HSt.out, stepP, if_neg (fun h => by have h1 := HLq.out; have h2 := HBq.out; rcases h.2.2 with h3 | h3 <;> simp [h1, h2] at h3)])
              go_wp2_with (go_at_call 29; refine (HLz.out _).mono ?_; rintro e w6 ⟨rfl, hb⟩; have HP6 : Hid (PrBox w6 M b) := Lib.hid ((hb.block _ HP5.out.lt).trans HP5.out); have HX6 := Lib.hid (HX5.out.keep hb); have HB6 := Lib.hid (HB5.out.trans (hb.mono HB5.out.size)); clear hb k0 k1 k2 k3 k4 k5 z0 z1 z2 z3 z4 z5)
              go_roundw
              case rel => exact ⟨k + 1, by omega, by go_num, Lib.hid HX6.out, Lib.hid (by rw [HS6.out]; exact HP6.out), HB6.out⟩
              case measure => simp [intOf]; omega
            | true =>
              have HS6 : Hid (bestP n noP (l.ps.take (k + 1)) = ⟨xm, xn, true, xr, xa, xt⟩) := Lib.hid (by rw [HSt.out, stepP, if_pos ⟨HNn.out, rfl, .inr HLq.out⟩])
              go_upto_region 7 with (go_at_call 29; refine (HLz.out _).mono ?_; rintro e w6 ⟨rfl, hb⟩; have HP6 : Hid (PrBox w6 M b) := Lib.hid ((hb.block _ HP5.out.lt).trans HP5.out); have HX6 := Lib.hid (HX5.out.keep hb); have HB6 := Lib.hid (HB5.out.trans (hb.mono HB5.out.size)); have HZ6 : Hid (PrBox w6 Z ⟨xm, xn, true, xr, xa, xt⟩) := Lib.hid ((hb.block _ HZ5.out.lt).trans HZ5.out); clear hb k0 k1 k2 k3 k4 k5 z0 z1 z2 z3 z4 z5)
              have HP7 := Lib.hid (HP6.out.put ⟨xm, xn, true, xr, xa, xt⟩)
              have HX7 : Hid (LBox (w6.setCells M 0 [.int .i64 xm, .int .i64 xn, .bool true, .int .i64 xr, .int .i64 xa, .string xt]) w.heap.size l.st l.r l.m (.slice (some ⟨b1, o1, none⟩) K sc) l.has l.val (.slice ta l.ak.length tc)) := Lib.hid ((heap_setCells_other M _ 0 _ _ (by have := HN2.out; omega)).trans HX6.out)
              have HB7 := Lib.hid (Below.setCells HB6.out (b := M) (by have := HN2.out; omega) 0 [.int .i64 xm, .int .i64 xn, .bool true, .int .i64 xr, .int .i64 xa, .string xt])
              refine wp_region_list ?_
              refine wpList_load_mid rfl 37 _ rfl Z 0 rfl [.int .i64 xm, .int .i64 xn, .bool true, .int .i64 xr, .int .i64 xa, .string xt] _ HZ6.out.range Try.underlying37 rfl sizePr ?_
              (refine wpList_store_mid rfl 37 _ _ rfl M 0 #[.int .i64 xm, .int .i64 xn, .bool true, .int .i64 xr, .int .i64 xa, .string xt] rfl rfl HP6.out.there sizePr (by simp [Value.oneCell']) ?_)
              refine wpList_nil ?_
              go_wp2
              go_roundw
              case rel => exact ⟨k + 1, by omega, by go_num, Lib.hid HX7.out, Lib.hid (by rw [HS6.out]; exact HP7.out), HB7.out⟩
              case measure => simp [intOf]; omega
      · have hn' : True → (xn == n) = false := fun _ => by simp [hn]
        have HS6 : Hid (PrBox V M (bestP n noP (l.ps.take (k + 1)))) := Lib.hid (by rw [HSt.out, stepP, if_neg (fun h => hn h.1)]; exact HP5.out)
        go_wp2
        go_roundw
        case rel => exact ⟨k + 1, by omega, by go_num, HX5, HS6, HB5.out⟩
        case measure => simp [intOf]; omega
    · obtain rfl : k = K := by omega
      have HPT : Hid (PrBox wr M T) := Lib.hid (by have := HPr.out; rw [← HK.out, List.take_length, HT.out] at this; exact this)
      clear HPr hlt c0 c1 c2 c3 c4 c5 c6
      obtain ⟨c0, c1, c2, c3, c4, c5, c6⟩ := HXr.out.cells
      obtain ⟨k0, k1, k2, k3, k4, k5⟩ := HPT.out.cells
      obtain ⟨tq, htq⟩ : ∃ q, T.has = q := ⟨_, rfl⟩
      have HTq := Lib.hid htq
      rw [htq] at k2
      cases tq with
      | false =>
        have HTn := Lib.hid (HTk.out htq)
        clear htq
        go_wp2
        go_ret2
        exact ⟨by rw [HTn.out]; rfl, HBr.out⟩
      | true =>
        clear htq
        go_wp2
        go_ret2
        exact ⟨by rw [HTq.out]; rfl, HBr.out⟩
end Go.Proofs.Ytmdipcemhaomhaa.crush
