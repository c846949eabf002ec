/- The document's Banned and Changes. -/
import Derived.Test.YtcofmfjhgbihkaaRows
import Derived.Test.YtcofmfjhgbihkaaMapsAll
import Derived.Test.YtcofmfjhgbihkaaMapsHas
import Derived.Test.YtcofmfjhgbihkaaMapsRInc
import Derived.Test.YtcofmfjhgbihkaaMapsOk
namespace Go.Proofs.Ytcofmfjhgbihkaa.crush
open Go.RowKit
open Go.Proofs.Ytcofmfjhgbihkaa.kit Go.Proofs.Ytcofmfjhgbihkaa.own
set_option linter.unusedVariables false
set_option linter.unusedSimpArgs false

theorem ordB_zero {x y : BanV} (h : ordB x y = 0) : x = y := by
  obtain ⟨a, b⟩ := x
  obtain ⟨c, d⟩ := y
  unfold ordB first2 cmp3 at h
  simp only at h
  by_cases h1 : a < c
  · simp [h1] at h
  · by_cases h2 : c < a
    · simp [h1, h2] at h
    · by_cases h3 : b < d
      · simp [h1, h2, h3] at h
      · by_cases h4 : d < b
        · simp [h1, h2, h3, h4] at h
        · have e1 : a = c := by omega
          have e2 : b = d := by omega
          rw [e1, e2]
theorem ordB_same (y : BanV) : ordB y y = 0 := by
  unfold ordB first2 cmp3
  simp
/-- Where bans lie in order, one stands there if it stands in its place. -/
theorem has_at {xs : List BanV} (h : okBans xs = true) (y : BanV) : hasBan xs y = atBan xs y (posB xs y) := by
  have hp := bans_pos h y
  cases hh : hasBan xs y with
  | true =>
    unfold hasBan at hh
    obtain ⟨x, hx, h2⟩ := List.any_eq_true.1 hh
    obtain ⟨j, hj, e2⟩ := List.getElem_of_mem hx
    have hyx : y = xs[j] := by rw [e2]; exact of_decide_eq_true h2
    have h0 : ordB xs[j] y = 0 := by rw [← hyx]; exact ordB_same y
    have h3 : ¬ j < posB xs y := fun e => by have := (hp j hj).2 e; omega
    have h4 : ¬ posB xs y < j := fun e => by
      have h5 : posB xs y < xs.length := by omega
      have h6 := bans_lt (xs := xs) _ (Nat.le_refl _) (by unfold okBans at h; rw [Bool.and_eq_true] at h; exact h.1) (posB xs y) j hj hj e
      rw [← hyx, ← ordB_lt] at h6
      have := (hp _ h5).1 (of_decide_eq_true h6)
      omega
    obtain rfl : j = posB xs y := by omega
    unfold atBan
    rw [List.getElem?_eq_getElem hj]
    exact (decide_eq_true h0).symm
  | false =>
    unfold atBan
    cases hq : xs[posB xs y]? with
    | none => rfl
    | some x =>
      obtain ⟨hj, e⟩ := List.getElem?_eq_some_iff.1 hq
      refine (decide_eq_false fun h0 => ?_).symm
      have := ordB_zero h0
      unfold hasBan at hh
      have h2 := List.any_eq_false.1 hh x (by rw [← e]; exact List.getElem_mem hj)
      exact h2 (decide_eq_true this.symm)
/-- Whether a change changes anything, in the document's words. -/
def chgO (c : IncV) (e : Int) (o : OsdV) : Bool := if c.kind = 1 then decide (o.boot < c.num) else if c.kind = 2 then (o.up && decide (o.boot = c.num)) else if c.kind = 3 then !decide (o.wt = c.num) else ((o.up && decide (o.thru < c.num)) && decide (c.num ≤ e))
def chgT (c : IncV) (m : MapV) : Bool :=
  if c.kind = 5 then decide (m.pools.length < 2)
  else if c.kind = 6 then (decide (m.bans.length < 64) && !hasBan m.bans (banV c))
  else match m.osds[c.osd.toNat]? with
    | none => false
    | some o => chgO c m.epoch o
def chgB (c : IncV) (m : MapV) : Bool := if okInc c = false then false else chgT c m
theorem chgT_5 {c : IncV} {m : MapV} (h : c.kind = 5) : chgT c m = decide (m.pools.length < 2) := by unfold chgT; rw [if_pos h]
theorem chgT_6 {c : IncV} {m : MapV} (h : c.kind = 6) : chgT c m = (decide (m.bans.length < 64) && !hasBan m.bans (banV c)) := by unfold chgT; rw [if_neg (by omega), if_pos h]
theorem chgT_o {c : IncV} {m : MapV} (h5 : ¬ c.kind = 5) (h6 : ¬ c.kind = 6) {i : Nat} (ho : c.osd = i) (hi : i < m.osds.length) : chgT c m = chgO c m.epoch m.osds[i] := by
  unfold chgT
  rw [if_neg h5, if_neg h6, ho, Int.toNat_natCast, List.getElem?_eq_getElem hi]
theorem chgT_n {c : IncV} {m : MapV} (h5 : ¬ c.kind = 5) (h6 : ¬ c.kind = 6) {i : Nat} (ho : c.osd = i) (hi : ¬ i < m.osds.length) : chgT c m = false := by
  unfold chgT
  rw [if_neg h5, if_neg h6, ho, Int.toNat_natCast, List.getElem?_eq_none (by omega)]
theorem chE_chg {c : IncV} {m : MapV} (hb : okBans m.bans = true) : (chE c m).2 = chgB c m := by
  unfold chE chgB
  cases hok : okInc c with
  | false => rfl
  | true =>
    rw [if_neg (show ¬ (true = false) by decide), if_neg (show ¬ (true = false) by decide)]
    unfold chgT chgO
    have hs : ∀ (f : Int → Int → OsdV → Option OsdV) (n : Int) (i : Nat) (g : OsdV → Bool), (∀ o, (f n m.epoch o).isSome = g o) → (setO f n i m).2 = (match m.osds[i]? with
      | none => false
      | some o => g o) := fun f n i g hg => by
      unfold setO
      cases m.osds[i]? with
      | none => rfl
      | some o =>
        have := hg o
        simp only
        cases hf : f n m.epoch o with
        | none => rw [hf] at this; simpa using this
        | some o' => rw [hf] at this; simpa using this
    by_cases k1 : c.kind = 1
    · rw [if_pos k1, if_neg (by omega), if_neg (by omega), hs _ _ _ (fun o => decide (o.boot < c.num)) (fun o => by
        unfold bootO
        by_cases h : c.num ≤ o.boot
        · rw [if_pos h]; simp; omega
        · rw [if_neg h]; simp; omega)]
      cases m.osds[c.osd.toNat]? with
      | none => rfl
      | some o => simp only [if_pos k1]
    · by_cases k2 : c.kind = 2
      · rw [if_neg k1, if_pos k2, if_neg (by omega), if_neg (by omega), hs _ _ _ (fun o => o.up && decide (o.boot = c.num)) (fun o => by
          unfold downO
          cases hu : o.up with
          | false => simp
          | true =>
            by_cases h : c.num = o.boot
            · rw [if_neg (by simp [h])]; simp [h]
            · rw [if_pos (Or.inr h)]; simp; omega)]
        cases m.osds[c.osd.toNat]? with
        | none => rfl
        | some o => simp only [if_neg k1, if_pos k2]
      · by_cases k3 : c.kind = 3
        · rw [if_neg k1, if_neg k2, if_pos k3, if_neg (by omega), if_neg (by omega), hs _ _ _ (fun o => !decide (o.wt = c.num)) (fun o => by
            unfold weighO
            by_cases h : c.num = o.wt
            · rw [if_pos h]; simp [h]
            · rw [if_neg h]; simp; omega)]
          cases m.osds[c.osd.toNat]? with
          | none => rfl
          | some o => simp only [if_neg k1, if_neg k2, if_pos k3]
        · by_cases k4 : c.kind = 4
          · rw [if_neg k1, if_neg k2, if_neg k3, if_pos k4, if_neg (by omega), if_neg (by omega), hs _ _ _ (fun o => (o.up && decide (o.thru < c.num)) && decide (c.num ≤ m.epoch)) (fun o => by
              unfold thruO
              cases hu : o.up with
              | false => simp
              | true =>
                by_cases h : c.num ≤ o.thru
                · rw [if_pos (Or.inr (Or.inl h))]; simp; omega
                · by_cases h2 : m.epoch < c.num
                  · rw [if_pos (Or.inr (Or.inr h2))]; simp; omega
                  · rw [if_neg (by simp [h, h2])]; simp; omega)]
            cases m.osds[c.osd.toNat]? with
            | none => rfl
            | some o => simp only [if_neg k1, if_neg k2, if_neg k3]
          · by_cases k5 : c.kind = 5
            · rw [if_neg k1, if_neg k2, if_neg k3, if_neg k4, if_pos k5, if_pos k5]
              unfold poolE
              split <;> simp <;> omega
            · have k6 := kind_six hok k1 k2 k3 k4 k5
              rw [if_neg k1, if_neg k2, if_neg k3, if_neg k4, if_neg k5, if_neg k5, if_pos k6, has_at hb]
              unfold banE
              cases atBan m.bans (banV c) (posB m.bans (banV c)) with
              | true => simp
              | false =>
                by_cases h : 64 ≤ m.bans.length
                · simp [h]
                · simp [h]; omega

set_option maxHeartbeats 8000000 in
set_option maxRecDepth 100000 in
theorem rBanned_any (v : Value) (m : MapV) (y : BanV) (w : World) (h : MapR w v m) : Calls Try.prog 111 #[v, .agg (bc y).toArray] w fun e w' => e = .returned (.bool (hasBan m.bans y)) ∧ Below w.heap.size w w' := by
  obtain ⟨vh, vo, vp, vb, rfl, h1, h2, h3, h4⟩ := h
  have HS := Lib.hid (fun u (hu : Below w.heap.size w u) => h4.keep hu)
  obtain ⟨ah, ch, rfl⟩ := h1.slice
  obtain ⟨ao, co, rfl⟩ := h2.slice
  obtain ⟨ap, cp, rfl⟩ := h3.slice
  obtain ⟨ab, cb, rfl⟩ := h4.slice
  have hl := h4.1
  have HAll : Hid (∀ k, k = m.bans.length → (∀ j (h : j < m.bans.length), j < k → ¬ y = m.bans[j]) → hasBan m.bans y = false) := Lib.hid (fun k e h => by
    unfold hasBan
    refine List.any_eq_false.2 fun x hx => ?_
    obtain ⟨j, hj, e2⟩ := List.getElem_of_mem hx
    rw [← e2]
    simpa using h j hj (by omega))
  have HOne : Hid (∀ k (h : k < m.bans.length), y = m.bans[k] → hasBan m.bans y = true) := Lib.hid (fun k h e => List.any_eq_true.2 ⟨_, List.getElem_mem h, decide_eq_true e⟩)
  have HQ := Lib.hid (fun x u => eql_ban x y u)
  generalize hasBan m.bans y = R at HAll HOne ⊢
  have b1 := below_new w (.cells #[.int .i64 m.epoch, .slice ah m.hosts.length ch, .slice ao m.osds.length co, .slice ap m.pools.length cp, .slice ab m.bans.length cb] 83)
  have x1 := mbox_new w 83 m.epoch (.slice ah m.hosts.length ch) (.slice ao m.osds.length co) (.slice ap m.pools.length cp) (.slice ab m.bans.length cb)
  have b2 := below_new (w.alloc (.cells #[.int .i64 m.epoch, .slice ah m.hosts.length ch, .slice ao m.osds.length co, .slice ap m.pools.length cp, .slice ab m.bans.length cb] 83)) (.cells (bc y).toArray 136)
  have x2 := alloc_at (w.alloc (.cells #[.int .i64 m.epoch, .slice ah m.hosts.length ch, .slice ao m.osds.length co, .slice ap m.pools.length cp, .slice ab m.bans.length cb] 83)) (.cells (bc y).toArray 136)
  rw [World.size_alloc] at x2
  have HX := Lib.hid (x1.keep b2)
  have HB := Lib.hid (b1.trans (b2.mono b1.size))
  have HY := Lib.hid x2
  obtain ⟨L, hL⟩ : ∃ L, m.bans.length = L := ⟨_, rfl⟩
  have HL := Lib.hid hL
  rw [hL] at hl HS HX HB HY ⊢
  obtain ⟨yc, yn⟩ := y
  simp only [bc] at HQ HX HB HY ⊢
  clear h1 h2 h3 h4 b1 b2 x1 x2 hL
  go_enter Try.func111, Try.ntmps111
  go_upto_region 1 with fail
  generalize ((w.alloc (.cells #[.int .i64 m.epoch, .slice ah m.hosts.length ch, .slice ao m.osds.length co, .slice ap m.pools.length cp, .slice ab L cb] 83)).alloc (.cells #[.int .i64 yc, .int .i64 yn] 136)) = U at HX HB HY ⊢
  go_wp2
  go_loopw [5] (fun vi wr => ∃ k : Nat, k ≤ L ∧ vi = .int .i64 k ∧ Hid (∀ j (h : j < m.bans.length), j < k → ¬ (⟨yc, yn⟩ : BanV) = m.bans[j]) ∧ Below U.heap.size U wr) (fun i _ => L - (intOf i).toNat)
  case atStart => exact ⟨0, by omega, rfl, Lib.hid (fun j h h2 => by omega), Below.refl _ _⟩
  case round =>
    obtain ⟨k, hk, rfl, HN, hbw⟩ := hrel
    have HBw := Lib.hid hbw
    have c4 := (HX.out.keep hbw).cells.2.2.2.2
    clear hbw
    by_cases hlt : k < L
    · have hlt' : (k : Int) < L := by omega
      have hk0 : (0 : Int) ≤ k := by omega
      have hi : k < m.bans.length := by rw [HL.out]; exact hlt
      obtain ⟨b, off, rfl, hbl, hr⟩ := sl_elem (HS.out _ (HB.out.trans (HBw.out.mono HB.out.size))) k hi
      have HDw := Lib.hid (below_drew HBw.out)
      have hd := range_keep hr hbl (below_drew (Below.refl wr.heap.size wr))
      have hy := cells_range (l := [.int .i64 yc, .int .i64 yn]) ((HDw.out.block _ (Array.getElem?_eq_some_iff.1 HY.out).1).trans HY.out)
      have c4d := (HX.out.keep HDw.out).cells.2.2.2.2
      obtain ⟨x, hxk⟩ : ∃ x, m.bans[k] = x := ⟨_, rfl⟩
      have HY2 := Lib.hid hxk
      rw [hxk] at hd
      have hQ := HQ.out x
      obtain ⟨xc, xn⟩ := x
      have d0 : _ = some (Value.int .i64 xc) := hd 0 _ rfl
      have d1 : _ = some (Value.int .i64 xn) := hd 1 _ rfl
      have s0 : _ = some (Value.int .i64 yc) := hy 0 _ rfl
      have s1 : _ = some (Value.int .i64 yn) := hy 1 _ rfl
      simp only [Nat.add_zero] at d0 s0
      obtain ⟨q, hq⟩ : ∃ q, decide ((⟨xc, xn⟩ : BanV) = ⟨yc, yn⟩) = q := ⟨_, rfl⟩
      rw [hq] at hQ
      simp only at hQ
      have HQq := Lib.hid hq
      have HBx := Lib.hid (HB.out.trans (HDw.out.mono HB.out.size))
      clear hr hbl hd hy hxk hq
      cases q with
      | true =>
        have HR : Hid (R = true) := Lib.hid (HOne.out k hi (by rw [HY2.out]; exact (of_decide_eq_true HQq.out).symm))
        go_upto_region 4 with fail
        go_region_held3 (fun u => u.cell? ⟨w.heap.size, 4, none⟩ = some (.slice (some ⟨b, off, none⟩) L cb) ∧ (u.cell? ⟨w.heap.size + 1, 0, none⟩ = some (.int .i64 yc) ∧ u.cell? ⟨w.heap.size + 1, 1, none⟩ = some (.int .i64 yn)) ∧ u.cell? ⟨b, off + k * 2, none⟩ = some (.int .i64 xc) ∧ u.cell? ⟨b, off + k * 2 + 1, none⟩ = some (.int .i64 xn))
          (first | exact ⟨c4d, ⟨s0, s1⟩, d0, d1⟩)
          (first | fail)
        go_wp2
        go_ret
        exact ⟨by rw [HR.out]; rfl, HBx.out⟩
      | false =>
        have HN2 : Hid (∀ j (h : j < m.bans.length), j < k + 1 → ¬ (⟨yc, yn⟩ : BanV) = m.bans[j]) := Lib.hid (fun j h h2 => by
          rcases Nat.lt_or_ge j k with h3 | h3
          · exact HN.out j h h3
          · obtain rfl : j = k := by omega
            rw [HY2.out]; exact fun e => of_decide_eq_false HQq.out e.symm)
        go_upto_region 4 with fail
        go_region_held3 (fun u => u.cell? ⟨w.heap.size, 4, none⟩ = some (.slice (some ⟨b, off, none⟩) L cb) ∧ (u.cell? ⟨w.heap.size + 1, 0, none⟩ = some (.int .i64 yc) ∧ u.cell? ⟨w.heap.size + 1, 1, none⟩ = some (.int .i64 yn)) ∧ u.cell? ⟨b, off + k * 2, none⟩ = some (.int .i64 xc) ∧ u.cell? ⟨b, off + k * 2 + 1, none⟩ = some (.int .i64 xn))
          (first | exact ⟨c4d, ⟨s0, s1⟩, d0, d1⟩)
          (first | fail)
        clear hQ d0 d1 s0 s1 c4 c4d
        go_wp2
        go_roundw
        case rel => exact ⟨k + 1, by omega, by go_num, HN2, HDw.out⟩
        case measure => simp [intOf]; omega
    · obtain rfl : k = L := by omega
      have HF := Lib.hid (HAll.out k HL.out.symm HN.out)
      have HBx := Lib.hid (HB.out.trans (HBw.out.mono HB.out.size))
      go_wp2
      go_ret
      exact ⟨by rw [HF.out]; rfl, HBx.out⟩

set_option maxHeartbeats 16000000 in
set_option maxRecDepth 100000 in
theorem rChanges_any (v : Value) (c : IncV) (m : MapV) (w : World) (h : MapR w v m) (hb : okBans m.bans = true) : Calls Try.prog 87 #[v, c.val] w fun e w' => e = .returned (.bool (chE c m).2) ∧ Below w.heap.size w w' := by
  rw [chE_chg hb]
  have HI := Lib.hid (fun u => rInc_any c u)
  have HBn := Lib.hid (fun u (hu : Below w.heap.size w u) => rBanned_any v m (banV c) u (h.keep hu))
  obtain ⟨vh, vo, vp, vb, rfl, h1, h2, h3, h4⟩ := h
  have HS := Lib.hid (fun u (hu : Below w.heap.size w u) => h2.keep hu)
  obtain ⟨ah, ch, rfl⟩ := h1.slice
  obtain ⟨ao, co, rfl⟩ := h2.slice
  obtain ⟨ap, cp, rfl⟩ := h3.slice
  obtain ⟨ab, cb, rfl⟩ := h4.slice
  have b1 := below_new w (.cells #[.int .i64 m.epoch, .slice ah m.hosts.length ch, .slice ao m.osds.length co, .slice ap m.pools.length cp, .slice ab m.bans.length cb] 83)
  have x1 := mbox_new w 83 m.epoch (.slice ah m.hosts.length ch) (.slice ao m.osds.length co) (.slice ap m.pools.length cp) (.slice ab m.bans.length cb)
  have b2 := below_new (w.alloc (.cells #[.int .i64 m.epoch, .slice ah m.hosts.length ch, .slice ao m.osds.length co, .slice ap m.pools.length cp, .slice ab m.bans.length cb] 83)) (.cells #[.int .i64 c.kind, .int .i64 c.osd, .int .i64 c.client, .int .i64 c.num, .int .i64 c.pool.size, .int .i64 c.pool.min, .int .i64 c.pool.pgs, .int .i64 c.pool.dom] 87)
  have x2 := ibx_new (w.alloc (.cells #[.int .i64 m.epoch, .slice ah m.hosts.length ch, .slice ao m.osds.length co, .slice ap m.pools.length cp, .slice ab m.bans.length cb] 83)) c
  rw [World.size_alloc] at x2
  have HX := Lib.hid (x1.keep b2)
  have HB := Lib.hid (b1.trans (b2.mono b1.size))
  have HY := Lib.hid x2
  obtain ⟨R, hR⟩ : ∃ R, chgB c m = R := ⟨_, rfl⟩
  have HOsd := Lib.hid (fun (hok : okInc c = true) (hk : c.kind = 1 ∨ c.kind = 2 ∨ c.kind = 3 ∨ c.kind = 4) => osd_nat hok hk)
  have HK6 := Lib.hid (fun (hok : okInc c = true) h1 h2 h3 h4 h5 => kind_six hok h1 h2 h3 h4 h5)
  rw [hR]
  have HR : Hid ((if okInc c = false then false else chgT c m) = R) := Lib.hid hR
  clear b1 b2 x1 x2 h1 h2 h3 h4 hb hR
  obtain ⟨Lo, hLo⟩ : ∃ L, m.osds.length = L := ⟨_, rfl⟩
  obtain ⟨Lp, hLp⟩ : ∃ L, m.pools.length = L := ⟨_, rfl⟩
  obtain ⟨Lb, hLb⟩ : ∃ L, m.bans.length = L := ⟨_, rfl⟩
  have HLo := Lib.hid hLo; have HLp := Lib.hid hLp; have HLb := Lib.hid hLb
  rw [hLo] at HBn HS HX HB HY ⊢
  rw [hLp] at HBn HX HB HY ⊢
  rw [hLb] at HBn HX HB HY ⊢
  generalize m.hosts.length = Lh at HBn HX HB HY ⊢
  clear hLo hLp hLb
  cases hok : okInc c with
  | false =>
    rw [hok] at HI
    have HRf : Hid (R = false) := Lib.hid (by have := HR.out; rw [if_pos hok] at this; exact this.symm)
    obtain ⟨k, o, cl, n, ⟨a, b, p, d⟩⟩ := c
    unfold IncV.val at HI ⊢
    simp only at HI HY HX HB ⊢
    clear hok HBn HS HR HOsd HK6
    go_enter Try.func87, Try.ntmps87
    go_upto_region 1 with fail
    generalize ((w.alloc (.cells #[.int .i64 m.epoch, .slice ah Lh ch, .slice ao Lo co, .slice ap Lp cp, .slice ab Lb cb] 83)).alloc (.cells #[.int .i64 k, .int .i64 o, .int .i64 cl, .int .i64 n, .int .i64 a, .int .i64 b, .int .i64 p, .int .i64 d] 87)) = U at HX HB HY ⊢
    obtain ⟨c0, c1, c2, c3, c4, c5, c6, c7⟩ := HY.out.cells
    simp only at c0 c1 c2 c3 c4 c5 c6 c7
    go_wp2_with (go_at_call 110; refine (HI.out _).mono ?_; rintro e V ⟨rfl, hb⟩; have HB5 := Lib.hid (HB.out.trans (hb.mono HB.out.size)); clear hb)
    go_ret
    exact ⟨by rw [HRf.out]; rfl, HB5.out⟩
  | true =>
    rw [hok] at HI
    have HR1 : Hid (chgT c m = R) := Lib.hid (by have := HR.out; rw [if_neg (by rw [hok]; decide)] at this; exact this)
    have HOsd := Lib.hid (HOsd.out hok)
    have HK6 := Lib.hid (HK6.out hok)
    obtain ⟨k, o, cl, n, ⟨a, b, p, d⟩⟩ := c
    unfold IncV.val at HI ⊢
    unfold banV at HBn
    simp only [bc] at HBn
    simp only at HI HY HX HB HBn HOsd HK6 ⊢
    clear hok HR
    have mixed : Try.prog.follows .mixedOrders = true := by kernel_rfl
    go_enter Try.func87, Try.ntmps87
    go_upto_region 1 with fail
    generalize ((w.alloc (.cells #[.int .i64 m.epoch, .slice ah Lh ch, .slice ao Lo co, .slice ap Lp cp, .slice ab Lb cb] 83)).alloc (.cells #[.int .i64 k, .int .i64 o, .int .i64 cl, .int .i64 n, .int .i64 a, .int .i64 b, .int .i64 p, .int .i64 d] 87)) = U at HX HB HY ⊢
    obtain ⟨c0, c1, c2, c3, c4, c5, c6, c7⟩ := HY.out.cells
    simp only at c0 c1 c2 c3 c4 c5 c6 c7
    go_upto_region 3 with (go_at_call 110; refine (HI.out _).mono ?_; rintro e V ⟨rfl, hb⟩; have HB5 := Lib.hid (HB.out.trans (hb.mono HB.out.size)); have HX5 := Lib.hid (HX.out.keep hb); have HY5 := Lib.hid (HY.out.keep hb); clear hb c0 c1 c2 c3 c4 c5 c6 c7)
    obtain ⟨c0, c1, c2, c3, c4, c5, c6, c7⟩ := HY5.out.cells
    simp only at c0 c1 c2 c3 c4 c5 c6 c7
    obtain ⟨m0, m1, m2, m3, m4⟩ := HX5.out.cells
    clear HX HY HB HI
    by_cases k5 : k = 5
    · subst k5
      have HR5 : Hid (decide (Lp < 2) = R) := Lib.hid (by have := HR1.out; rw [chgT_5 rfl, HLp.out] at this; exact this)
      go_wp2
      go_ret
      exact ⟨by rw [← HR5.out]; simp; omega, HB5.out⟩
    · by_cases k6 : k = 6
      · subst k6
        have HR6 : Hid ((decide (Lb < 64) && !hasBan m.bans ⟨cl, n⟩) = R) := Lib.hid (by have := HR1.out; rw [chgT_6 rfl, HLb.out] at this; exact this)
        by_cases hl : Lb < 64
        · have hl' : (Lb : Int) < 64 := by omega
          go_wp2_with (go_at_call 111; refine (HBn.out _ HB5.out).mono ?_; rintro e V2 ⟨rfl, hb⟩; have HB6 := Lib.hid (HB5.out.trans (hb.mono HB5.out.size)); clear hb)
          go_ret
          exact ⟨by rw [← HR6.out]; simp [hl], HB6.out⟩
        · have hl' : ¬ (Lb : Int) < 64 := by omega
          go_wp2
          go_ret
          exact ⟨by rw [← HR6.out]; simp [hl], HB5.out⟩
      · have hk4 : k = 1 ∨ k = 2 ∨ k = 3 ∨ k = 4 := by
          by_cases e1 : k = 1
          · exact Or.inl e1
          · by_cases e2 : k = 2
            · exact Or.inr (Or.inl e2)
            · by_cases e3 : k = 3
              · exact Or.inr (Or.inr (Or.inl e3))
              · by_cases e4 : k = 4
                · exact Or.inr (Or.inr (Or.inr e4))
                · exact absurd (HK6.out e1 e2 e3 e4 k5) k6
        have ho := HOsd.out hk4
        obtain ⟨i, hoi⟩ : ∃ i : Nat, o.toNat = i := ⟨_, rfl⟩
        rw [hoi] at ho
        clear hoi
        subst ho
        have hi0 : (0 : Int) ≤ i := by omega
        by_cases hi : i < Lo
        · have hi' : (i : Int) < Lo := by omega
          have hil : i < m.osds.length := by rw [HLo.out]; exact hi
          have HR8 : Hid (chgO ⟨k, i, cl, n, ⟨a, b, p, d⟩⟩ m.epoch m.osds[i] = R) := Lib.hid (by rw [← HR1.out]; exact (chgT_o k5 k6 rfl hil).symm)
          obtain ⟨g, off, rfl, hbl, hr⟩ := sl_elem (HS.out _ HB5.out) i hil
          obtain ⟨y, hy⟩ : ∃ y, m.osds[i] = y := ⟨_, rfl⟩
          rw [hy] at HR8 hr
          obtain ⟨d0, d1, d2, d3⟩ := ocells4 hr
          obtain ⟨bt, up, wt, th⟩ := y
          simp only at d0 d1 d2 d3 HR8
          clear hr hbl hy HR1 HOsd HK6 HBn HS
          go_upto_region 11 with fail
          have hbn := below_new V (.cells #[.int .i64 bt, .bool up, .int .i64 wt, .int .i64 th] 132)
          have HX6 := Lib.hid (HX5.out.keep hbn)
          have HY6 := Lib.hid (HY5.out.keep hbn)
          have HB6 := Lib.hid (HB5.out.trans (hbn.mono HB5.out.size))
          have hz := cells_range (l := [.int .i64 bt, .bool up, .int .i64 wt, .int .i64 th]) (alloc_at V (.cells #[.int .i64 bt, .bool up, .int .i64 wt, .int .i64 th] 132))
          clear hbn HX5 HY5 HB5 d0 d1 d2 d3 c0 c1 c2 c3 c4 c5 c6 c7 m0 m1 m2 m3 m4
          generalize V.alloc _ = U2 at HX6 HY6 HB6 hz ⊢
          generalize V.heap.size = K at hz ⊢
          have d0 : _ = some (Value.int .i64 bt) := hz 0 _ rfl
          have d1 : _ = some (Value.bool up) := hz 1 _ rfl
          have d2 : _ = some (Value.int .i64 wt) := hz 2 _ rfl
          have d3 : _ = some (Value.int .i64 th) := hz 3 _ rfl
          simp only [Nat.zero_add] at d0 d1 d2 d3
          obtain ⟨c0, c1, c2, c3, c4, c5, c6, c7⟩ := HY6.out.cells
          simp only at c0 c1 c2 c3 c4 c5 c6 c7
          obtain ⟨m0, m1, m2, m3, m4⟩ := HX6.out.cells
          clear hz
          rcases hk4 with rfl | rfl | rfl | rfl
          · have HRr : Hid (decide (bt < n) = R) := HR8
            go_wp2
            go_ret
            exact ⟨by rw [← HRr.out]; rfl, HB6.out⟩
          · have HRr : Hid ((up && decide (bt = n)) = R) := HR8
            cases up with
            | true =>
              go_wp2
              go_ret
              exact ⟨by rw [← HRr.out]; simp; rfl, HB6.out⟩
            | false =>
              go_wp2
              go_ret
              exact ⟨by rw [← HRr.out]; simp, HB6.out⟩
          · have HRr : Hid ((!decide (wt = n)) = R) := HR8
            go_wp2
            go_ret
            exact ⟨by rw [← HRr.out]; rfl, HB6.out⟩
          · have HRr : Hid (((up && decide (th < n)) && decide (n ≤ m.epoch)) = R) := HR8
            cases up with
            | true =>
              by_cases ht : th < n
              · go_wp2
                go_ret
                exact ⟨by rw [← HRr.out]; simp [ht] <;> omega, HB6.out⟩
              · go_wp2
                go_ret
                exact ⟨by rw [← HRr.out]; simp [ht] <;> omega, HB6.out⟩
            | false =>
              go_wp2
              go_ret
              exact ⟨by rw [← HRr.out]; simp, HB6.out⟩
        · have hi' : (Lo : Int) ≤ i := by omega
          have HRr : Hid (false = R) := Lib.hid (by rw [← HR1.out]; exact (chgT_n k5 k6 rfl (by rw [HLo.out]; exact hi)).symm)
          have k5' : ¬ k = 5 := k5
          go_wp2
          go_ret
          exact ⟨by rw [← HRr.out]; rfl, HB5.out⟩
end Go.Proofs.Ytcofmfjhgbihkaa.crush
