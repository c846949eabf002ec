/- A record's sum; what a first piece begins. -/
import Derived.Test.YtkhghkklekjdaaaDoorRows
import Derived.Test.YtkhghkklekjdaaaDoorJournalRec
namespace Go.Proofs.YtkhghkklekjdaaaDoor.journal
open Go.RowKit
open Go.Proofs.YtkhghkklekjdaaaDoor.kit Go.Proofs.YtkhghkklekjdaaaDoor.own Go.Proofs.YtkhghkklekjdaaaDoor.jm
open Go.Proofs.YtkhghkklekjdaaaDoor.fm (crc or_add take_snoc' lowN)
open Go.Proofs.YtkhghkklekjdaaaDoor.frame (byte_at Nib Sum_any)
open Go.Proofs.YtkhghkklekjdaaaDoor.sector (infoByte bv ba bv_at bv_len)
set_option linter.unusedVariables false
set_option linter.unusedSimpArgs false

set_option maxHeartbeats 8000000 in
set_option maxRecDepth 100000 in
theorem sumOf_any (num : Nat) (hn : num < 9223372036854775808) (v : Value) (text : List Nat) (w : World) (hv : SlI w .u8 v text) (h8 : ∀ n ∈ text, n < 256) (hv0 : ∀ n c, v = .slice none n c → c = 0) (hl : text.length ≤ 1000000000) (hN : Nib w) :
    Calls Tryd.prog 49 #[.int .i64 num, v] w fun e w' => e = .returned (.int .u32 (sumR num text : Nat)) ∧ Below w.heap.size w w' := by
  have HV := Lib.hid hv; have HV0 := Lib.hid hv0; have HN := Lib.hid hN; have H8 := Lib.hid h8; have HLn := Lib.hid hl; have HNm := Lib.hid hn
  obtain ⟨_, av, cv, rfl, _⟩ := id hv
  have e1 : True → IntKind.u64.wrap (num : Int) = (num : Int) := fun _ => by simp [IntKind.wrap, IntKind.bits, IntKind.signed]; omega
  have e2 : True → IntKind.u64.wrap (text.length : Int) = (text.length : Int) := fun _ => by simp [IntKind.wrap, IntKind.bits, IntKind.signed]; omega
  have HE : Hid (sumR num text = crc (le 8 num ++ (le 4 text.length ++ text))) := Lib.hid (by unfold sumR; rw [List.append_assoc])
  clear hv hv0 hN h8 hn hl
  generalize hL : text.length = L at *
  have HL := Lib.hid hL
  clear hL
  go_enter Tryd.func49, Tryd.ntmps49
  go_wp2_with fail
  refine (putLow_any num 8 (by have := HNm.out; omega) (by decide) w.heap.size (.slice none 0 0) [] w (OwnI.nil ..) (Nat.le_refl _) (by simp)).mono ?_
  rintro e w1 ⟨⟨v1, rfl, ho1⟩, hk1⟩
  have HO1 := Lib.hid ho1; have HK1 := Lib.hid hk1
  clear ho1 hk1
  go_wp2_with fail
  refine (putLow_any L 4 (by have := HLn.out; omega) (by decide) w.heap.size v1 _ w1 HO1.out HK1.out.size (by simp)).mono ?_
  rintro e w2 ⟨⟨v2, rfl, ho2⟩, hk2⟩
  rw [List.nil_append] at ho2
  have HO2 := Lib.hid ho2; have HK2 := Lib.hid (HK1.out.trans hk2)
  clear ho2 hk2 HO1 HK1
  go_wp2_with (at_builtin; refine appS rfl (.tmp 13) (.tmp 14) 22 rfl w.heap.size 5 .u8 1 Tryd.underlying22 infoByte _ _ rfl HO2.out _ text rfl (HV.out.keep HK2.out.toBelow) HV0.out (by have := HLn.out; have := HL.out; simp [maxLen]; omega) (by have := HLn.out; have := HL.out; simp; omega) HK2.out.size ?_)
  intro v3 w3 ho3 hk3
  have HO3 := Lib.hid ho3; have HB3 := Lib.hid (HK2.out.toBelow.trans hk3.toBelow)
  clear ho3 hk3 HO2 HK2
  have HN3 := Lib.hid (HN.out.keep HB3.out)
  have HH8 : Hid (∀ n ∈ le 8 num ++ (le 4 L ++ text), n < 256) := Lib.hid (fun n hn => by
    rcases List.mem_append.1 hn with hn | hn
    · exact le_lt _ _ _ hn
    · rcases List.mem_append.1 hn with hn | hn
      · exact le_lt _ _ _ hn
      · exact H8.out n hn)
  go_wp2_with fail
  refine (Sum_any v3 _ w3 HO3.out.read HH8.out HN3.out).mono ?_
  rintro e w' ⟨rfl, rfl⟩
  rw [← HE.out]
  clear e1 e2
  go_wp2
  go_ret
  exact ⟨rfl, HB3.out⟩

/-- A record, as a value. -/
def RecV (num count sum : Nat) (v : Value) : Value := .agg #[.int .i64 (num : Int), .int .i64 (count : Int), .int .u32 (sum : Int), v]
def BegunS (w : World) (p : Pc) (e : Ending) (w' : World) : Prop := ∃ v, e = .returned (RecV p.num (ofLe (p.rest.take 4)) (ofLe ((p.rest.drop 4).take 4)) v) ∧ OwnI w' w.heap.size 5 .u8 v (gath [] (ofLe (p.rest.take 4)) (p.rest.drop 8)) ∧ Below w.heap.size w w'

theorem below_new (w : World) (o : Obj) : Below w.heap.size w (w.alloc o) := (Below.refl _ w).alloc (Nat.le_refl _) o
theorem RecBox.range {w : World} {R num count sum : Nat} {v : Value} (h : RecBox w R num count sum v) : w.rangeAt R 0 [.int .i64 (num : Int), .int .i64 (count : Int), .int .u32 (sum : Int), v] := fun j u hu => by
  unfold RecBox at h
  simp only [World.cell?, h]
  simpa using hu
theorem RecBox.set {w : World} {R num count sum : Nat} {v : Value} (h : RecBox w R num count sum v) (n' c' s' : Nat) (v' : Value) : RecBox ((((w.setCell ⟨R, 0, none⟩ (.int .i64 (n' : Int))).setCell ⟨R, 1, none⟩ (.int .i64 (c' : Int))).setCell ⟨R, 2, none⟩ (.int .u32 (s' : Int))).setCell ⟨R, 3, none⟩ v') R n' c' s' v' := by
  have h1 := heap_setCell_same w R 0 _ _ (.int .i64 (n' : Int)) h
  have h2 := heap_setCell_same _ R 1 _ _ (.int .i64 (c' : Int)) h1
  have h3 := heap_setCell_same _ R 2 _ _ (.int .u32 (s' : Int)) h2
  have h4 := heap_setCell_same _ R 3 _ _ v' h3
  unfold RecBox
  simpa using h4
theorem own_set_box {w : World} {B e : Nat} {k : IntKind} {v : Value} {ns : List Nat} (h : OwnI w B e k v ns) {R : Nat} {c : Array Value} {t : TypeId} (hr : w.heap[R]? = some (.cells c t (0, 0))) (ht : e ≠ t) (j : Nat) (u : Value) : OwnI (w.setCell ⟨R, j, none⟩ u) B e k v ns :=
  sector.own_stays h (fun g hg => heap_setCell_other w ⟨R, j, none⟩ g u (fun (e' : g = R) => sector.own_ne_box h hr ht (by rw [← e']; exact hg)))
theorem own_set4 {w : World} {B e : Nat} {k : IntKind} {v : Value} {ns : List Nat} (h : OwnI w B e k v ns) {R : Nat} {c : Array Value} {t : TypeId} (hr : w.heap[R]? = some (.cells c t (0, 0))) (ht : e ≠ t) (x y z u : Value) :
    OwnI ((((w.setCell ⟨R, 0, none⟩ x).setCell ⟨R, 1, none⟩ y).setCell ⟨R, 2, none⟩ z).setCell ⟨R, 3, none⟩ u) B e k v ns :=
  own_set_box (own_set_box (own_set_box (own_set_box h hr ht 0 x) (heap_setCell_same _ R 0 _ _ x hr) ht 1 y) (heap_setCell_same _ R 1 _ _ y (heap_setCell_same _ R 0 _ _ x hr)) ht 2 z) (heap_setCell_same _ R 2 _ _ z (heap_setCell_same _ R 1 _ _ y (heap_setCell_same _ R 0 _ _ x hr))) ht 3 u
theorem below4 {B : Nat} {w W : World} (h : Below B w W) {N : Nat} (hN : B ≤ N) (a b c d : Value) : Below B w ((((W.setCell ⟨N, 0, none⟩ a).setCell ⟨N, 1, none⟩ b).setCell ⟨N, 2, none⟩ c).setCell ⟨N, 3, none⟩ d) :=
  (((h.setCell (p := ⟨N, 0, none⟩) hN a).setCell (p := ⟨N, 1, none⟩) hN b).setCell (p := ⟨N, 2, none⟩) hN c).setCell (p := ⟨N, 3, none⟩) hN d
theorem retRec {fn : Func} {t : Tmp} {tmps : Array Value} {w : World} {R num count sum : Nat} {v : Value} (h : fn.results = #[.cell t 90]) (ht : tmps.getD t undef = .pointer (some ⟨R, 0, none⟩)) (hx : RecBox w R num count sum v) :
    (results fn tmps).run Tryd.prog w = .ok (RecV num count sum v) w := ret_cell h ht hx.range Tryd.underlying90 rfl infoRec

set_option maxHeartbeats 8000000 in
set_option maxRecDepth 100000 in
theorem begun_any (g : Nat) (p : Pc) (w : World) (hm : p.mark ≠ 0) (hl : p.rest.length = 55) (h8 : ∀ n ∈ p.rest, n < 256) (hs : SlI w .u8 (.slice (some ⟨g, 9, none⟩) 55 55) p.rest) :
    Calls Tryd.prog 48 #[PcV g p] w (BegunS w p) := by
  obtain ⟨mk, nm, rs⟩ := p
  simp only at hm hl h8 hs ⊢
  have s1 : SlI w .u8 (.slice (some ⟨g, 9, none⟩) 4 55) (rs.take 4) := SlI.take hs 4 (by omega)
  have hs' : SlI w .u8 (.slice (some ⟨g, 9, none⟩) rs.length 55) rs := by rw [hl]; exact hs
  have s2 : SlI w .u8 (.slice (some ⟨g, 9 + 4, none⟩) (8 - 4) (55 - 4)) ((rs.take 8).drop 4) := sub_read (a := some ⟨g, 9, none⟩) (a' := some ⟨g, 9 + 4, none⟩) (cap := 55) hs' (by omega) (by omega) (fun _ b off e => by cases e; rfl)
  have s3 : SlI w .u8 (.slice (some ⟨g, 9 + 8, none⟩) (55 - 8) (55 - 8)) ((rs.take 55).drop 8) := sub_read (a := some ⟨g, 9, none⟩) (a' := some ⟨g, 9 + 8, none⟩) (cap := 55) hs' (by omega) (by omega) (fun _ b off e => by cases e; rfl)
  rw [List.drop_take] at s2
  rw [List.take_of_length_le (by omega)] at s3
  simp only [Nat.reduceAdd, Nat.reduceSub] at s2 s3
  unfold BegunS PcV
  simp only [if_neg hm]
  have hb0 := (Below.refl w.heap.size w).alloc (Nat.le_refl _) (.cells #[.int .u8 (mk : Int), .int .i64 (nm : Int), .slice (some ⟨g, 9, none⟩) 55 55] 92)
  have hb1 := hb0.alloc (by simp) (.cells #[.int .i64 0, .int .i64 0, .int .u32 0, .slice none 0 0] 90)
  have hP : Box3 ((w.alloc (.cells #[.int .u8 (mk : Int), .int .i64 (nm : Int), .slice (some ⟨g, 9, none⟩) 55 55] 92)).alloc (.cells #[.int .i64 0, .int .i64 0, .int .u32 0, .slice none 0 0] 90)) w.heap.size 92 _ _ _ := sector.alloc2_fst _ _ _
  have hR : RecBox ((w.alloc (.cells #[.int .u8 (mk : Int), .int .i64 (nm : Int), .slice (some ⟨g, 9, none⟩) 55 55] 92)).alloc (.cells #[.int .i64 0, .int .i64 0, .int .u32 0, .slice none 0 0] 90)) (w.heap.size + 1) 0 0 0 (.slice none 0 0) := sector.alloc2_snd _ _ _
  obtain ⟨cn, hcn⟩ : ∃ x, ofLe (rs.take 4) = x := ⟨_, rfl⟩
  obtain ⟨sm, hsm⟩ : ∃ x, ofLe ((rs.drop 4).take 4) = x := ⟨_, rfl⟩
  have hcl : cn < 4294967296 := by have := ofLe_lt (rs.take 4) (fun n hn => h8 n (List.mem_of_mem_take hn)); rw [List.length_take, hl, hcn] at this; exact this
  have hsl : sm < 4294967296 := by have := ofLe_lt ((rs.drop 4).take 4) (fun n hn => h8 n (List.mem_of_mem_drop (List.mem_of_mem_take hn))); rw [List.length_take, List.length_drop, hl, hsm] at this; exact this
  have HL1 : Hid (∀ u, Below w.heap.size w u → Calls Tryd.prog 61 #[.slice (some ⟨g, 9, none⟩) 4 55] u fun e w' => e = .returned (.int .u64 (cn : Nat)) ∧ u = w') := Lib.hid fun u hu => by
    rw [← hcn]; exact low_any _ _ _ (s1.keep hu) (fun n hn => h8 n (List.mem_of_mem_take hn)) (by simp; omega)
  have HL2 : Hid (∀ u, Below w.heap.size w u → Calls Tryd.prog 61 #[.slice (some ⟨g, 13, none⟩) 4 51] u fun e w' => e = .returned (.int .u64 (sm : Nat)) ∧ u = w') := Lib.hid fun u hu => by
    rw [← hsm]; exact low_any _ _ _ (s2.keep hu) (fun n hn => h8 n (List.mem_of_mem_drop (List.mem_of_mem_take hn))) (by simp; omega)
  have HS3 := Lib.hid (show ∀ u, Below w.heap.size w u → SlI u .u8 (.slice (some ⟨g, 17, none⟩) 47 47) (rs.drop 8) from fun u hu => s3.keep hu)
  rw [hcn, hsm]
  have HP := Lib.hid hP; have HR := Lib.hid hR; have HB := Lib.hid hb1
  have HRl : Hid ((rs.drop 8).length = 47) := Lib.hid (by simp [hl])
  have HCl := Lib.hid hcl
  have e1 : True → IntKind.i64.wrap (cn : Int) = (cn : Int) := fun _ => by rw [IntKind.wrap_i64]; omega
  have e2 : True → IntKind.u32.wrap (sm : Int) = (sm : Int) := fun _ => by simp [IntKind.wrap, IntKind.bits, IntKind.signed]; omega
  clear hs hs' s1 s2 s3 hb0 hb1 hP hR hcl hsl h8 hl hcn hsm hm
  go_enter Tryd.func48, Tryd.ntmps48
  go_upto_region 1 with fail
  generalize (w.alloc (.cells _ 92)).alloc (.cells _ 90) = W at HP HR HB ⊢
  obtain ⟨N, hN⟩ : ∃ N, w.heap.size = N := ⟨_, rfl⟩
  rw [hN] at HP HR HB HL1 HL2 HS3 ⊢
  have HNn := Lib.hid hN
  clear hN
  obtain ⟨k0, k1, k2⟩ := HP.out.cells
  go_quiet (fail)
  clear k0 k1 k2
  replace HP : Hid (Box3 (W.drewN nq) N 92 (.int .u8 (mk : Int)) (.int .i64 (nm : Int)) (.slice (some ⟨g, 9, none⟩) 55 55)) := HP
  replace HR : Hid (RecBox (W.drewN nq) (N + 1) 0 0 0 (.slice none 0 0)) := HR
  replace HB : Hid (Below N w (W.drewN nq)) := Lib.hid (HB.out.drewN' nq)
  generalize W.drewN nq = W2 at HP HR HB ⊢
  go_upto_region 2 with fail
  have HPd : Hid (Box3 W2.drew N 92 (.int .u8 (mk : Int)) (.int .i64 (nm : Int)) (.slice (some ⟨g, 9, none⟩) 55 55)) := HP
  have HBd : Hid (Below N w W2.drew) := Lib.hid (HB.out.drewN' 1)
  have HPa : Hid (∀ o, (W2.alloc o).drew.cell? ⟨N, 1, none⟩ = some (.int .i64 (nm : Int))) := Lib.hid fun o => ((HP.out.keep (below_new W2 o)).cells).2.1
  obtain ⟨k0, k1, k2⟩ := HPd.out.cells
  have HA : Hid (∀ o, Below N w (W2.alloc o).drew) := Lib.hid fun o => (HB.out.alloc (by rw [← HNn.out]; exact HB.out.size) o).drewN' 1
  go_region_held3 (fun u => u.cell? ⟨N, 1, none⟩ = some (.int .i64 (nm : Int)))
    (first | exact k1 | exact HPa.out _)
    (first
      | ((go_at_call 61; first | with_reducible refine (HL1.out _ HBd.out).mono ?_ | with_reducible refine (HL1.out _ (HA.out _)).mono ?_ | with_reducible refine (HL2.out _ HBd.out).mono ?_ | with_reducible refine (HL2.out _ (HA.out _)).mono ?_); (rintro e w' ⟨rfl, rfl⟩)))
  all_goals
    have hR4 : RecBox (W2.alloc (.cells #[.int .i64 (nm : Int), .int .i64 (cn : Int), .int .u32 (sm : Int), .slice none 0 0] 90)).drew W2.heap.size nm cn sm (.slice none 0 0) := alloc_at W2 _
    have hB4 := HA.out (.cells #[.int .i64 (nm : Int), .int .i64 (cn : Int), .int .u32 (sm : Int), .slice none 0 0] 90)
    have hP4 : Box3 (W2.alloc (.cells #[.int .i64 (nm : Int), .int .i64 (cn : Int), .int .u32 (sm : Int), .slice none 0 0] 90)).drew N 92 _ _ _ := HP.out.keep ((below_new W2 _).drewN' 1)
    have hR2 : RecBox (W2.alloc (.cells #[.int .i64 (nm : Int), .int .i64 (cn : Int), .int .u32 (sm : Int), .slice none 0 0] 90)).drew (N + 1) 0 0 0 (.slice none 0 0) := HR.out.keep ((below_new W2 _).drewN' 1)
    have hne : W2.heap.size ≠ N + 1 := fun e => by have := HR.out.lt; omega
    have hNR : N ≤ W2.heap.size := by have := HB.out.size; rw [HNn.out] at this; exact this
    generalize (W2.alloc (.cells #[.int .i64 (nm : Int), .int .i64 (cn : Int), .int .u32 (sm : Int), .slice none 0 0] 90)).drew = W4 at hR4 hB4 hP4 hR2 ⊢
    generalize W2.heap.size = R at hR4 hne hNR ⊢
    have HR4 := Lib.hid hR4; have HB4 := Lib.hid hB4; have HR2 := Lib.hid hR2; have HNe := Lib.hid hne; have HNR := Lib.hid hNR
    clear HPd HBd HPa HA k0 k1 k2 HP HR HB HL1 HL2 e1 e2 hR4 hB4 hR2 hne hNR
    obtain ⟨k0, k1, k2⟩ := hP4.cells
    clear hP4
    go_wp2_with fail
    refine (gather_any W4 W4.heap.size R nm cn sm [] (.slice none 0 0) ⟨HR4.out, OwnI.nil ..⟩ (Nat.le_refl _) g 17 47 47 (rs.drop 8) (HS3.out _ HB4.out) HRl.out (Nat.le_refl _) (Nat.zero_le _) HCl.out (by simp)).mono ?_
    rintro e w5 ⟨rfl, v5, w1, hk, rfl, ho⟩
    obtain ⟨x5, y5, z5, rfl⟩ := own_form ho
    have hbx := HR4.out.kept hk
    have hbx2 := HR2.out.kept hk
    have HO5 := Lib.hid (own_set_box ho hbx (by decide) 3 (.slice x5 y5 z5))
    have HBx5 := Lib.hid (hbx.text (.slice x5 y5 z5))
    have HBx25 : Hid (RecBox (w1.setCell ⟨R, 3, none⟩ (.slice x5 y5 z5)) (N + 1) 0 0 0 (.slice none 0 0)) := Lib.hid ((heap_setCell_other w1 ⟨R, 3, none⟩ (N + 1) _ (fun e => HNe.out e.symm)).trans hbx2)
    have HB5 := Lib.hid ((HB4.out.trans (hk.toBelow.mono (by have := HB4.out.size; rw [HNn.out] at this; exact this))).setCell (p := ⟨R, 3, none⟩) HNR.out (.slice x5 y5 z5))
    have hlt5 := hk.size
    have hsz5 : W4.heap.size ≤ (w1.setCell ⟨R, 3, none⟩ (.slice x5 y5 z5)).heap.size := by simpa using hk.size
    have HN4 := Lib.hid (show N ≤ W4.heap.size from by have := HB4.out.size; rw [HNn.out] at this; exact this)
    clear k0 k1 k2 hk ho hbx hbx2 HR4 HR2 HS3
    generalize w1.setCell ⟨R, 3, none⟩ (.slice x5 y5 z5) = W5 at HO5 HBx5 HBx25 HB5 hsz5 ⊢
    obtain ⟨k0, k1, k2, k3⟩ := HBx5.out.cells
    obtain ⟨m0, m1, m2, m3⟩ := HBx25.out.free
    obtain ⟨q0, q1, q2, q3⟩ := HBx25.out.cells
    go_wp2
    refine bodyPost_ret (retRec rfl rfl (HBx25.out.set nm cn sm (.slice x5 y5 z5))) rfl ?_
    refine ⟨_, rfl, ?_, ?_⟩
    · have h := own_set4 HO5.out HBx25.out (by decide) (.int .i64 (nm : Int)) (.int .i64 (cn : Int)) (.int .u32 (sm : Int)) (.slice x5 y5 z5)
      rw [HNn.out]
      refine ⟨h.1, ?_⟩
      rcases h.2 with hh | ⟨g', cap, cur, e1, hb, hr⟩
      · exact .inl hh
      · exact .inr ⟨g', cap, cur, e1, Nat.le_trans HN4.out hb, hr⟩
    · rw [HNn.out]
      exact below4 HB5.out (Nat.le_succ _) _ _ _ _

end Go.Proofs.YtkhghkklekjdaaaDoor.journal
