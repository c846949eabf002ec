/- How many copies move, by the document. -/
import Derived.Test.YtngmcolbpdinmaaRows
import Derived.Test.YtngmcolbpdinmaaRuleRLoad
import Derived.BigQuiet
namespace Go.Proofs.Ytngmcolbpdinmaa.crush
open Go.RowKit
open Go.Proofs.Ytngmcolbpdinmaa.kit Go.Proofs.Ytngmcolbpdinmaa.own
set_option linter.unusedVariables false

/-- Does z stand in the first q? -/
def hasP (l : List Nat) (z : Nat) : Nat → Bool
  | 0 => false
  | q + 1 => hasP l z q || l.getD q 0 == z
theorem hasP_iff (l : List Nat) (z : Nat) : ∀ q, q ≤ l.length → (hasP l z q = true ↔ ∃ j, j < q ∧ l.getD j 0 = z)
  | 0, _ => by simp [hasP]
  | q + 1, hq => by
    rw [hasP, Bool.or_eq_true, hasP_iff l z q (by omega), beq_iff_eq]
    constructor
    · rintro (⟨j, h1, h2⟩ | h)
      · exact ⟨j, by omega, h2⟩
      · exact ⟨q, by omega, h⟩
    · rintro ⟨j, h1, h2⟩
      by_cases e : j = q
      · subst e; exact .inr h2
      · exact .inl ⟨j, by omega, h2⟩
theorem hasP_all (l : List Nat) (z : Nat) : hasP l z l.length = l.contains z := by
  rw [Bool.eq_iff_iff, hasP_iff l z _ (Nat.le_refl _), List.contains_iff_mem]
  constructor
  · rintro ⟨j, h1, h2⟩
    rw [List.getD_eq_getElem?_getD, List.getElem?_eq_getElem h1] at h2
    simp at h2
    rw [← h2]; exact List.getElem_mem h1
  · intro h
    obtain ⟨j, h1, h2⟩ := List.getElem_of_mem h
    exact ⟨j, h1, by rw [List.getD_eq_getElem?_getD, List.getElem?_eq_getElem h1]; simpa using h2⟩
theorem hasP_true (l : List Nat) (z q : Nat) (h : hasP l z q = true) : hasP l z (q + 1) = true := by rw [hasP, h]; rfl

set_option maxHeartbeats 16000000 in
set_option maxRecDepth 100000 in
theorem rMoves_any (v vw vo : Value) (hs ws wo : List Int) (x : Nat) (n size d : Int) (hx : x < 4294967296) (w : World) (h : Sl ic 1 w v hs) (hw : Sl ic 1 w vw ws) (ho : Sl ic 1 w vo wo) (hl : hs.length ≤ 65536) :
    Calls Try.prog 10 #[v, vw, vo, .int .u32 x, .int .i64 n, .int .i64 size, .int .i64 d] w fun e w' => e = .returned (.int .i64 (movR hs ws wo x size d (askR n) : Nat)) ∧ Below w.heap.size w w' := by
  obtain ⟨a, c, rfl⟩ := h.slice
  obtain ⟨aw, cw, rfl⟩ := hw.slice
  obtain ⟨ao, co, rfl⟩ := ho.slice
  have HXl := Lib.hid hx
  have HPw := Lib.hid (fun (z : Nat) (hz : z < 4294967296) w' (hb : Below w.heap.size w w') => rPlace_any _ _ hs ws z size d hz w' (h.keep hb) (hw.keep hb) hl)
  have HPo := Lib.hid (fun (z : Nat) (hz : z < 4294967296) w' (hb : Below w.heap.size w w') => rPlace_any _ _ hs wo z size d hz w' (h.keep hb) (ho.keep hb) hl)
  generalize hs.length = L at HPw HPo ⊢
  generalize ws.length = Lw at HPw ⊢
  generalize wo.length = Lo at HPo ⊢
  obtain ⟨m, hm⟩ : ∃ m, askR n = m := ⟨_, rfl⟩
  have HMa := Lib.hid (fun w => many_any n w)
  rw [hm] at HMa ⊢
  have hmle : m ≤ 2000 := by unfold askR at hm; omega
  have mixed : Try.prog.follows .mixedOrders = true := by kernel_rfl
  clear h hw ho hx hl hm
  go_enter Try.func10, Try.ntmps10
  go_wp2
  go_loopw [15, 16] (fun vc vi wr => ∃ k : Nat, k ≤ m ∧ vi = .int .i64 k ∧ vc = .int .i64 (movR hs ws wo x size d k : Nat) ∧ Below w.heap.size w wr) (fun _ i _ => m - (intOf i).toNat)
  case atStart => exact ⟨0, by omega, rfl, rfl, Below.refl _ _⟩
  case round =>
    obtain ⟨k, hk, rfl, rfl, hbw⟩ := hrel
    have HB := Lib.hid hbw
    clear hbw
    by_cases hlt : k < m
    · have hlt' : (k : Int) < m := by omega
      obtain ⟨z, hz⟩ : ∃ z, (x + k) % 4294967296 = z := ⟨_, rfl⟩
      have hzl : z < 4294967296 := by omega
      have e1 : True → (k : Int) % 4294967296 = k := fun _ => by omega
      have e2 : True → ((x : Int) + (k : Int)) % 4294967296 = (z : Int) := fun _ => by omega
      have hle := movR_le hs ws wo x size d k
      obtain ⟨pa, hpa⟩ : ∃ pl, plAt hs ws x size d k = pl := ⟨_, rfl⟩
      obtain ⟨pb, hpb⟩ : ∃ pl, plAt hs wo x size d k = pl := ⟨_, rfl⟩
      have HSuc : Hid (movR hs ws wo x size d (k + 1) = movR hs ws wo x size d k + missN pa pb pb.length) := Lib.hid (by rw [← hpa, ← hpb]; rfl)
      have hpn : pb.length ≤ 64 := by rw [← hpb]; exact plAt_len hs wo x size d k
      have han : pa.length ≤ 64 := by rw [← hpa]; exact plAt_len hs ws x size d k
      have HP1 : Hid (∀ w', Below w.heap.size w w' → Calls Try.prog 17 #[.slice a L c, .slice aw Lw cw, .int .u32 z, .int .i64 size, .int .i64 d] w' (NumI w' (ints pa))) := Lib.hid (fun w' h => by
        have := HPw.out z hzl w' h
        rw [← hpa]
        show Calls _ _ _ _ (NumI w' (ints (placeE hs ws ((x + k) % 4294967296) size d)))
        rw [hz]; exact this)
      have HP2 : Hid (∀ w', Below w.heap.size w w' → Calls Try.prog 17 #[.slice a L c, .slice ao Lo co, .int .u32 z, .int .i64 size, .int .i64 d] w' (NumI w' (ints pb))) := Lib.hid (fun w' h => by
        have := HPo.out z hzl w' h
        rw [← hpb]
        show Calls _ _ _ _ (NumI w' (ints (placeE hs wo ((x + k) % 4294967296) size d)))
        rw [hz]; exact this)
      generalize movR hs ws wo x size d k = mc at HSuc hle ⊢
      obtain ⟨P, hP⟩ : ∃ P, pb.length = P := ⟨_, rfl⟩
      have HPn := Lib.hid hP
      rw [hP] at hpn HSuc
      obtain ⟨A, hA⟩ : ∃ P, pa.length = P := ⟨_, rfl⟩
      have HAn := Lib.hid hA
      rw [hA] at han
      have HMc : Hid (mc ≤ 128000) := Lib.hid (by omega)
      clear hz hzl hpa hpb hle hP hA
      go_upto_region 6 with (first
        | (go_at_call 16; refine (HMa.out _).mono ?_; rintro e w5 ⟨rfl, rfl⟩)
        | (go_at_call 17; refine (HP1.out _ HB.out).mono ?_; rintro e w5 ⟨v5, rfl, ho, hb⟩; obtain ⟨a5, c5, rfl⟩ := ho.slice; have HB5 := Lib.hid (HB.out.trans (hb.mono HB.out.size)); have HO5 := Lib.hid (ho.read ic_len); clear hb ho HP1; rw [ints_len, HAn.out] at HO5; rw [ints_len, HAn.out]))
      go_wp2_with (go_at_call 17; refine (HP2.out _ HB5.out).mono ?_; rintro e w6 ⟨v6, rfl, ho, hb⟩; obtain ⟨a6, c6, rfl⟩ := ho.slice; have HB6 := Lib.hid (HB5.out.trans (hb.mono HB5.out.size)); have HO6 := Lib.hid (ho.read ic_len); have HO56 := Lib.hid (HO5.out.keep hb); clear hb ho e1 e2; rw [ints_len, HPn.out] at HO6; rw [ints_len, HPn.out])
      clear HO5 HB5 HP2
      go_loopw [15, 19] (fun vc vj wq => ∃ j : Nat, j ≤ P ∧ vj = .int .i64 j ∧ vc = .int .i64 (mc + missN pa pb j : Nat) ∧ Below w6.heap.size w6 wq) (fun _ v _ => P - (intOf v).toNat)
      case atStart => exact ⟨0, by omega, rfl, rfl, Below.refl _ _⟩
      case round =>
        obtain ⟨j, hj, rfl, rfl, hb7⟩ := hrel
        have HB7 := Lib.hid hb7
        clear hb7
        by_cases hjn : j < P
        · have hjn' : (j : Int) < P := by omega
          have hj0 : (0 : Int) ≤ j := by omega
          have hjl : j < pb.length := by rw [HPn.out]; exact hjn
          have hgd : pb.getD j 0 = pb[j] := by rw [List.getD_eq_getElem?_getD, List.getElem?_eq_getElem hjl]; rfl
          have HNx : Hid (missN pa pb (j + 1) = missN pa pb j + if pa.contains pb[j] then 0 else 1) := Lib.hid (by rw [missN, hgd])
          have hml := missN_le pa pb j
          obtain ⟨b5, o5, c5', he5, hb5, hc5⟩ := int_at' HO6.out (L := P) (by rw [ints_len, HPn.out]) hjn
          obtain ⟨rfl, rfl⟩ : a6 = some ⟨b5, o5, none⟩ ∧ c6 = c5' := by cases he5; exact ⟨rfl, rfl⟩
          have d1 := hc5 j (by rw [ints_len]; exact hjl)
          have e1 : (ints pb)[j]'(by rw [ints_len]; exact hjl) = (pb[j] : Int) := by simp [ints]
          rw [e1] at d1
          obtain ⟨p, hp⟩ : ∃ p, pb[j] = p := ⟨_, rfl⟩
          rw [hp] at d1 HNx
          have HD1 : Hid (∀ u, Below w6.heap.size w6 u → u.cell? ⟨b5, o5 + j, none⟩ = some (.int .i64 (p : Int))) := Lib.hid (fun u hu => (hu.cell (p := ⟨b5, o5 + j, none⟩) hb5).trans d1)
          have hmc : mc + missN pa pb j ≤ 200000 := by have := HMc.out; omega
          obtain ⟨mj, hmj⟩ : ∃ mj, missN pa pb j = mj := ⟨_, rfl⟩
          rw [hmj] at HNx hmc ⊢
          clear he5 hb5 hc5 e1 hgd hp hjl d1 hml hmj
          go_wp2
          go_loopw [20, 21] (fun vt vq wq => ∃ q : Nat, q ≤ A ∧ vq = .int .i64 q ∧ vt = .bool (hasP pa p q) ∧ Below w6.heap.size w6 wq) (fun _ v _ => A - (intOf v).toNat)
          case atStart => exact ⟨0, by omega, rfl, rfl, HB7.out⟩
          case round =>
            obtain ⟨q, hq, rfl, rfl, hb8⟩ := hrel
            have HB8 := Lib.hid hb8
            by_cases hqn : q < A
            · have hqn' : (q : Int) < A := by omega
              have hq0 : (0 : Int) ≤ q := by omega
              have hql : q < pa.length := by rw [HAn.out]; exact hqn
              obtain ⟨b4, o4, c4', he4, hb4, hc4⟩ := int_at' HO56.out (L := A) (by rw [ints_len, HAn.out]) hqn
              obtain ⟨rfl, rfl⟩ : a5 = some ⟨b4, o4, none⟩ ∧ c5 = c4' := by cases he4; exact ⟨rfl, rfl⟩
              have d2 := hc4 q (by rw [ints_len]; exact hql)
              have e1 : (ints pa)[q]'(by rw [ints_len]; exact hql) = (pa[q] : Int) := by simp [ints]
              rw [e1] at d2
              have d3 := (hb8.cell (p := ⟨b4, o4 + q, none⟩) hb4).trans d2
              have d4 := HD1.out _ hb8
              have hgd : pa.getD q 0 = pa[q] := by rw [List.getD_eq_getElem?_getD, List.getElem?_eq_getElem hql]; rfl
              have HHp : Hid (hasP pa p (q + 1) = (hasP pa p q || pa[q] == p)) := Lib.hid (by rw [hasP, hgd])
              obtain ⟨y, hy⟩ : ∃ y, pa[q] = y := ⟨_, rfl⟩
              rw [hy] at d3 HHp
              obtain ⟨t, ht⟩ : ∃ t, hasP pa p q = t := ⟨_, rfl⟩
              rw [ht] at HHp ⊢
              have hci : ((y : Int) == (p : Int)) = (y == p) := by
                rw [Bool.eq_iff_iff, beq_iff_eq, beq_iff_eq]; omega
              have HCi := Lib.hid hci
              clear he4 hb4 hc4 d2 e1 hql hgd hy ht hb8 hci
              cases t with
              | true =>
                go_upto_region 14 with fail
                go_region
                have HB9 := Lib.hid (HB8.out.trans (below_drew (Below.refl wr.heap.size wr) |>.mono HB8.out.size))
                have HH9 : Hid (hasP pa p (q + 1) = true) := Lib.hid (by rw [HHp.out]; rfl)
                clear d3 d4
                go_wp2
                go_roundw
                case rel => exact ⟨q + 1, by omega, by go_num, by rw [HH9.out], HB9.out⟩
                case measure => simp [intOf]; omega
              | false =>
                go_upto_region 14 with fail
                go_quiet (fail)
                have HB9 := Lib.hid (HB8.out.drewN' nq)
                have HH9 : Hid (hasP pa p (q + 1) = ((y : Int) == (p : Int))) := Lib.hid (by rw [HHp.out, HCi.out]; rfl)
                clear d3 d4
                go_wp2
                go_roundw
                case rel => exact ⟨q + 1, by omega, by go_num, by rw [HH9.out], HB9.out⟩
                case measure => simp [intOf]; omega
            · obtain rfl : q = A := by omega
              have hall : hasP pa p q = pa.contains p := by rw [← HAn.out]; exact hasP_all pa p
              rw [hall]
              obtain ⟨u, hu⟩ : ∃ u, pa.contains p = u := ⟨_, rfl⟩
              rw [hu] at HNx ⊢
              clear hall hu hb8
              cases u with
              | true =>
                have HN2 : Hid (mc + missN pa pb (j + 1) = mc + mj) := Lib.hid (by rw [HNx.out]; rfl)
                go_wp2
                go_roundw
                case rel => exact ⟨j + 1, by omega, by go_num, by rw [HN2.out], HB8.out⟩
                case measure => simp [intOf]; omega
              | false =>
                have HN2 : Hid (mc + missN pa pb (j + 1) = mc + mj + 1) := Lib.hid (by rw [HNx.out]; rfl)
                go_wp2
                go_roundw
                case rel => exact ⟨j + 1, by omega, by go_num, by rw [HN2.out]; go_num, HB8.out⟩
                case measure => simp [intOf]; omega
        · obtain rfl : j = P := by omega
          have HE : Hid (movR hs ws wo x size d (k + 1) = mc + missN pa pb j) := Lib.hid HSuc.out
          have HB9 : Hid (Below w.heap.size w wr) := Lib.hid (HB6.out.trans (HB7.out.mono HB6.out.size))
          go_wp2
          go_roundw
          case rel => exact ⟨k + 1, by omega, by go_num, by rw [HE.out], HB9.out⟩
          case measure => simp [intOf]; omega
    · obtain rfl : k = m := by omega
      go_wp2_with (go_at_call 16; refine (HMa.out _).mono ?_; rintro e w5 ⟨rfl, rfl⟩)
      go_ret
      exact ⟨rfl, HB.out⟩
end Go.Proofs.Ytngmcolbpdinmaa.crush
