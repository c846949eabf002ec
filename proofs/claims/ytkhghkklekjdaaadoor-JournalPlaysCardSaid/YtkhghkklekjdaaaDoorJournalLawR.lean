/- The law JournalPlays: a journal answers as the document's does, on a device whose power goes at any write, from any bytes on, opened anew wherever asked for: for all bytes, numbers and acts the law returns true and leaves its arguments as they were. Conditions: none. -/
import Derived.Test.YtkhghkklekjdaaaDoorCards
import Derived.Test.YtkhghkklekjdaaaDoorTie
import Derived.Test.YtkhghkklekjdaaaDoorJournalMB
import Derived.Test.YtkhghkklekjdaaaDoorJournalMC
import Derived.Test.YtkhghkklekjdaaaDoorJournalMD
import Derived.Deep.CutRange
import Derived.Deep.CutBlock
import Derived.Deep.RegionHeld3
namespace Go.Proofs.YtkhghkklekjdaaaDoor.journal
open Go.ChangeShapes Go.WideShapes Go.ChangeAt Go.RowKit
open Go.Proofs.YtkhghkklekjdaaaDoor.kit Go.Proofs.YtkhghkklekjdaaaDoor.own Go.Proofs.YtkhghkklekjdaaaDoor.fm Go.Proofs.YtkhghkklekjdaaaDoor.lift Go.Proofs.YtkhghkklekjdaaaDoor.jm
open Go.WideMaps Go.WideElems
open Go.Proofs.YtkhghkklekjdaaaDoor.frame (Nib)
open Go.Proofs.YtkhghkklekjdaaaDoor.sector (strN DevAt RAt Dev Both Fresh fresh loaded Byt Load_ok Load_form Load_count rLoad_ok rLoad_form rLoad_count PickOk cDev Cut_all rCut_all On_any rOn_any Image_any rImage_any conv_sl own_any Makes)
set_option linter.unusedVariables false
set_option linter.constructorNameAsVariable false

theorem both_loaded {w0 w1 w2 : World} {d r n : Nat} {ns : List Nat} (hd : DevAt w1 (Fresh w0 w1) d (loaded n ns)) (hb1 : Below w0.heap.size w0 w1) (hr : RAt w2 (Fresh w1 w2) r (loaded n ns)) (hb2 : Below w1.heap.size w1 w2) (hn : 1 ≤ n) : Both w0 w2 d r (loaded n ns) (Fresh w0 w1) (Fresh w1 w2) := by
  have hs := hb1.size
  refine ⟨hd.keep hb2, hr, fun k hk hy => ?_, fun k hk => hk.elim False.elim (·.1), fun k hk => hk.elim False.elim (fun h => by omega), hb1.trans (hb2.mono hs), fun p hp => (by simp [loaded, fresh] at hp), hn⟩
  rcases hk with hk | hk
  · exact hk
  · rcases hy with hy | hy
    · exact hy
    · omega
/-- Both journals are opened. -/
theorem pair_new {w0 w w2 : World} {d r f n c : Nat} {m : Dev} {Z Y : Nat → Prop} (h : Both w0 w d r m Z Y) (hf : f + n ≤ m.n) (hws : m.ws ≤ c) (hfs : m.fs ≤ c) (hb : Below w.heap.size w w2) {J' K' a' num' : Nat}
    (hj : JAt w2 J' ⟨d, f, f + n, f + a', num', false⟩) (hk : RJ w2 K' r f n a' num' false) (hJ : w.heap.size ≤ J') (hK : w.heap.size ≤ K') (hne : J' ≠ K') (ha : a' ≤ n) (hnum : num' ≤ maxNum + 1) : Pair w0 w2 d r J' K' f n c m Z Y a' num' false := by
  have s0 := h.below.size
  have hz : ∀ k, w.heap.size ≤ k → ¬ Z k := fun k hk hz => by have := h.dev.lt k hz; omega
  have hy : ∀ k, w.heap.size ≤ k → ¬ Y k := fun k hk hz => by have := h.doc.lt k hz; omega
  exact ⟨h.keep hb, hj, hk, hz _ hJ, hz _ hK, hy _ hJ, hy _ hK, hne, by omega, by omega, ha, hf, hnum, hws, hfs⟩
theorem below_drew2 {N : Nat} {u w : World} {a b : Nat} (h : Below N u ((w.drewN a).drewN b)) : Below N u (w.drewN (a + b)) := by
  rewrite [drewN2] at h
  exact h
/-- An act's cells, wherever its box lies as it lay. -/
theorem actj_read {W1 wx : World} {B : Nat} {A : ActJ} (hx : wx.heap[B]? = W1.heap[B]?) (hr : W1.rangeAt B 0 A.cells) : wx.cell? ⟨B, 0, none⟩ = some (.int .i64 A.kind) ∧ wx.cell? ⟨B, 1, none⟩ = some (.string A.text) ∧ wx.cell? ⟨B, 2, none⟩ = some (.int .i64 A.n) ∧ wx.cell? ⟨B, 3, none⟩ = some (.int .u64 (A.pick : Nat)) ∧ wx.cell? ⟨B, 4, none⟩ = some (.int .i64 A.first) := by
  have key : ∀ j v, A.cells[j]? = some v → wx.cell? ⟨B, j, none⟩ = some v := fun j v hv => by
    have h := hr j v hv
    rw [Nat.zero_add] at h
    rw [← h]
    simp only [World.cell?, hx]
  exact ⟨key 0 _ rfl, key 1 _ rfl, key 2 _ rfl, key 3 _ rfl, key 4 _ rfl⟩

set_option maxHeartbeats 16000000 in
set_option maxRecDepth 100000 in
theorem walkPlays (w : World) (v : Value) (ns : List Nat) (hv : Byt w v ns) (hcap : ∀ a l c, v = .slice a l c → l ≤ c) (fr cn fi : Int) (hcn : cn ≤ 9223372036854775807) (va : Value) (n0 : Nat) (A : Nat → ActJ) (ha : ActsJ w va n0 A) (hN : Nib w) :
    Calls Tryd.prog 3 #[v, .int .i64 fr, .int .i64 cn, .int .i64 fi, va] w fun e w' => e = .returned (.bool true) ∧ Below w.heap.size w w' := by
  obtain ⟨hl0, av, cv, rfl, -⟩ := id hv.read
  obtain ⟨hn47, aa, ca, rfl, hac⟩ := id ha.shape
  have HV := Lib.hid hv; have HA := Lib.hid ha; have HAc := Lib.hid hac; have HNb := Lib.hid hN; have HCn := Lib.hid hcn; have HCap := Lib.hid hcap; have HL0 := Lib.hid hl0
  have HVr := Lib.hid hv.read; have HV8 := Lib.hid hv.lt
  have HW := Lib.hid (fun (W : World) (hW : Below w.heap.size w W) => jawake_any W (hN.keep hW))
  clear hv ha hac hN hcn hcap hl0
  by_cases h64 : ns.length % 64 = 0
  · obtain ⟨k, hk⟩ : ∃ k, ns.length = 64 * k := ⟨ns.length / 64, by omega⟩
    by_cases hbad : k < 1 ∨ 4096 < k
    · generalize ns.length = L at hk HL0 ⊢
      have HKk := Lib.hid hk; have HBad := Lib.hid hbad
      clear hk hbad h64
      go_enter Tryd.func3, Tryd.ntmps3
      go_wp2_with fail
      refine (Load_count w av L cv k HL0.out HKk.out HBad.out).mono ?_
      rintro e w' ⟨rfl, rfl⟩
      go_wp2_with fail
      refine (rLoad_count w av L cv k HL0.out HKk.out HBad.out).mono ?_
      rintro e w' ⟨rfl, rfl⟩
      go_wp2_with fail
      refine (HW.out w (Below.refl _ _)).mono ?_
      rintro e w4 ⟨rfl, hb4⟩
      have HB4 := Lib.hid hb4
      clear hb4
      go_wp2
      go_ret
      exact ⟨rfl, HB4.out⟩
    · have HKk := Lib.hid hk
      have hk1 : 1 ≤ k := by omega
      have hk2 : k ≤ 4096 := by omega
      have HK2 := Lib.hid (And.intro hk1 hk2)
      have HLd := Lib.hid (Load_ok w (.slice av ns.length cv) ns k HVr.out HV8.out HCap.out hk hk1 hk2)
      have HLr := Lib.hid (fun (W : World) (hW : Below w.heap.size w W) => rLoad_ok W (.slice av ns.length cv) ns k (HVr.out.keep hW) HV8.out hk hk1 hk2)
      clear hk hbad h64 hk1 hk2
      generalize ns.length = L at HLd HLr ⊢
      go_enter Tryd.func3, Tryd.ntmps3
      go_wp2_with fail
      refine HLd.out.mono ?_
      rintro e w1 ⟨d, rfl, hd1, hb1⟩
      have HD1 := Lib.hid hd1; have HB1 := Lib.hid hb1
      clear hd1 hb1
      go_wp2_with fail
      refine (HLr.out w1 HB1.out).mono ?_
      rintro e w2 ⟨r, rfl, hr2, hb2⟩
      have HBo := Lib.hid (both_loaded HD1.out HB1.out hr2 hb2 HK2.out.1)
      clear hr2 hb2 HD1 HB1 HLd HLr
      have hkn : (loaded k ns).n = k := rfl
      by_cases hbo : badO (loaded k ns).n fr cn fi
      · have HO1 := Lib.hid (Open_bad w2 _ d _ HBo.out.dev fr cn fi HCn.out hbo)
        have HO2 := Lib.hid (rOpen_bad w2 _ r _ HBo.out.doc fr cn fi HCn.out hbo)
        clear hbo hkn
        go_wp2_with fail
        refine HO1.out.mono ?_
        rintro e w' ⟨rfl, rfl⟩
        go_wp2_with fail
        refine HO2.out.mono ?_
        rintro e w' ⟨rfl, rfl⟩
        have HT := Lib.hid (texts_any (.slice none 0 0) (.slice none 0 0) [] [] w2 (SlT.nil w2 0) (SlT.nil w2 0))
        go_wp2_with fail
        refine HT.out.mono ?_
        rintro e w3 ⟨rfl, hb3⟩
        have HB3 := Lib.hid (HBo.out.below.trans (hb3.mono HBo.out.below.size))
        simp only [decide_true]
        clear hb3
        go_wp2_with fail
        refine (HW.out w3 HB3.out).mono ?_
        rintro e w4 ⟨rfl, hb4⟩
        have HB4 := Lib.hid (HB3.out.trans (hb4.mono HB3.out.size))
        clear hb4
        go_wp2
        go_ret
        exact ⟨rfl, HB4.out⟩
      · have hb1 : ¬ fr < 0 := fun h1 => hbo (.inl h1)
        have hb2 : ¬ cn < 1 := fun h1 => hbo (.inr (.inl h1))
        have hb3 : ¬ ((k : Nat) : Int) - cn < fr := fun h1 => hbo (.inr (.inr (.inl h1)))
        have hb4 : ¬ fi < 1 := fun h1 => hbo (.inr (.inr (.inr (.inl h1))))
        have hb5 : ¬ (4611686018427387904 : Int) < fi := fun h1 => hbo (.inr (.inr (.inr (.inr h1))))
        obtain ⟨f, rfl⟩ : ∃ f : Nat, fr = f := ⟨fr.toNat, by omega⟩
        obtain ⟨n, rfl⟩ : ∃ n : Nat, cn = n := ⟨cn.toNat, by omega⟩
        obtain ⟨first, rfl⟩ : ∃ x : Nat, fi = x := ⟨fi.toNat, by omega⟩
        have hfn : f + n ≤ (loaded k ns).n := by show f + n ≤ k; omega
        have hn1 : 1 ≤ n := by omega
        have hf1 : 1 ≤ first ∧ first ≤ maxNum := by unfold maxNum; omega
        have HBd := Lib.hid (open_bounds HBo.out.dev.1 f n first hfn hf1)
        have HO1 := Lib.hid (Open_ok w2 _ d _ f n first HBo.out.dev hfn hn1 hf1 rfl (HNb.out.keep HBo.out.below))
        have HO2 := Lib.hid (fun (W : World) (hW : Below w2.heap.size w2 W) => rOpen_ok W _ r _ f n first (HBo.out.doc.keep hW) hfn hn1 hf1 rfl)
        have HFn := Lib.hid hfn; have HN1 := Lib.hid hn1
        clear hbo hb1 hb2 hb3 hb4 hb5 hfn hn1 hf1 hkn
        have HWf := Lib.hid (show (loaded k ns).ws = 0 ∧ (loaded k ns).fs = 0 from ⟨rfl, rfl⟩)
        generalize loaded k ns = m0 at HBo HBd HO1 HO2 HFn HWf
        go_wp2_with fail
        refine HO1.out.mono ?_
        rintro e w3 ⟨J, v3, rfl, hj3, hJ3, ho3, hb3⟩
        have HJ3 := Lib.hid hj3; have HJl := Lib.hid hJ3; have HO3 := Lib.hid ho3; have HB3 := Lib.hid hb3
        clear hj3 hJ3 ho3 hb3
        go_wp2_with fail
        refine (HO2.out w3 HB3.out).mono ?_
        rintro e w4 ⟨K, v4, rfl, hk4, hK4, ho4, hb4⟩
        have hP : Pair w w4 d r J K f n 0 m0 _ _ _ _ false := pair_new HBo.out HFn.out (by have := HWf.out.1; omega) (by have := HWf.out.2; omega) (HB3.out.trans (hb4.mono HB3.out.size)) (JAt.keep HJ3.out (hb4.block J HJ3.out.lt)) hk4 HJl.out (Nat.le_trans HB3.out.size hK4) (by have := HJ3.out.lt; omega) HBd.out.1 HBd.out.2.1
        have hll : ((standF first (pcsOf m0 f n)).1.map strN).length ≤ 9223372036854775807 := by rw [List.length_map]; have := HBd.out.2.2; omega
        have HT := Lib.hid (texts_any v3 v4 _ _ w4 ((HO3.out.below hb4).sl hll) (ho4.sl hll))
        have HP4 := Lib.hid hP
        clear hk4 hK4 ho4 hb4 hP hll HO1 HO2
        go_wp2_with fail
        refine HT.out.mono ?_
        rintro e w5 ⟨rfl, hb5⟩
        have HP5 := Lib.hid (show PlaysAt w w5 d r J K f n 0 from ⟨_, _, _, _, _, _, HP4.out.keep hb5⟩)
        simp only [decide_true]
        clear hb5 HP4
        go_wp2_with fail
        go_loopw [13, 16, 77] (fun vj vk vi wr => ∃ (q J K : Nat), q ≤ n0 ∧ vi = .int .i64 q ∧ vj = .pointer (some ⟨J, 0, none⟩) ∧ vk = .pointer (some ⟨K, 0, none⟩) ∧ PlaysAt w wr d r J K f n (5000 * q)) (fun _ _ vi _ => n0 - (intOf vi).toNat)
        case atStart => exact ⟨0, J, K, Nat.zero_le _, rfl, rfl, rfl, HP5.out⟩
        case round =>
          obtain ⟨q, J, K, hq, rfl, rfl, rfl, m, Z, Y, a, num, bad, hP⟩ := hrel
          have HP := Lib.hid hP
          clear hP HP5
          by_cases hqn : q < n0
          · have hqI : (q : Int) < (n0 : Int) := by omega
            have hq0 : (0 : Int) ≤ (q : Int) := by omega
            obtain ⟨b, off, rfl, hcell⟩ := HAc.out (by omega)
            have hr := hcell q hqn
            have hok := HA.out.each q hqn
            generalize A q = act at hr hok
            have HOk := Lib.hid hok
            have HR := Lib.hid (show wr.rangeAt b (off + q * 5) act.cells from fun i v hv => (HP.out.both.below.cell (p := ⟨b, off + q * 5 + i, none⟩) (cell_lt (hr i v hv))).trans (hr i v hv))
            obtain ⟨t1, t2, t3, t4⟩ := actj_var wr act
            have HT1 := Lib.hid t1; have HT2 := Lib.hid t2; have HT3 := Lib.hid t3; have HT4 := Lib.hid t4
            have hone : ∀ v ∈ act.cells, v.oneCell' = true := by
              intro v hv
              simp [ActJ.cells] at hv
              rcases hv with rfl | rfl | rfl | rfl | rfl <;> rfl
            have HOn := Lib.hid (all_oneCell_toArray hone)
            have HPq := Lib.hid (HP.out.keep t3)
            clear hr hok t1 t2 t3 t4 hone hcell
            go_upto_region 13 with (first
              | refine wpList_load_mid rfl 40 (.tmp 79) rfl b (off + q * 5) rfl _ _ HR.out Tryd.underlying40 rfl infoActJ ?_
              | refine wpList_store_mid rfl 40 (.tmp 20) (.tmp 80) rfl wr.heap.size 0 _ rfl rfl HT1.out infoActJ HOn.out ?_)
            clear HR HT1 HOn
            generalize (World.setCells _ wr.heap.size 0 _) = W1 at HT2 HT3 HT4 HPq ⊢
            obtain ⟨B, hB⟩ : ∃ B, wr.heap.size = B := ⟨_, rfl⟩
            rw [hB] at HT2 HT4 ⊢
            have HBz := Lib.hid (show ¬ Z B ∧ ¬ Y B ∧ B ≠ J ∧ B ≠ K from ⟨fun h => by have := HP.out.both.dev.lt B h; omega, fun h => by have := HP.out.both.doc.lt B h; omega, by have := HP.out.jr.lt; omega, by have := HP.out.rj.lt; omega⟩)
            have HCl := Lib.hid (fun (wx : World) (hx : wx.heap[B]? = W1.heap[B]?) => actj_read hx HT2.out)
            clear hB HP
            obtain ⟨c0, c1, c2, c3, c4⟩ := HCl.out W1 rfl
            go_upto_block 2 with fail
            clear c0 c1 c2 c3 c4
            go_cut [13, 16, 77] from 78 to 184 (fun vj vk vi wx => vi = .int .i64 q ∧ wx.heap[B]? = W1.heap[B]? ∧ ∃ J K, vj = .pointer (some ⟨J, 0, none⟩) ∧ vk = .pointer (some ⟨K, 0, none⟩) ∧ PlaysAt w wx d r J K f n (5000 * q + 5000))
            case first =>
              by_cases h1 : act.kind = 1
              · have hcq : 5000 * q + 2000000 < 4611686018427387904 := by omega
                obtain ⟨z, HAs0⟩ := (HPq.out.keep (drewBelow W1)).append_asked HNb.out act.text HOk.out.1 hcq (B := B) HT4.out HBz.out.1 HBz.out.2.1 HBz.out.2.2.1 HBz.out.2.2.2
                unfold Asked at HAs0
                have HAs := Lib.hid HAs0
                obtain ⟨c0, c1, c2, c3, c4⟩ := HCl.out W1 rfl
                clear HAs0 hcq
                go_upto_region 24 with fail
                clear h1 c0 c2 c3 c4
                --P24
                refine wp_region_held_drew (S := fun u => u.cell? ⟨B, 1, none⟩ = some (.string act.text)) (by kernel_rfl) (c1) (fun hHeld => ?_)
                refine wpAnyH_take (i := 0) (oi := { dst := some 125, op := Op.move (Operand.tmp 13), type := 29, pos := "law.go:52", after := #[], guard := none }) (v := ?_) rfl (by kernel_rfl) (by kernel_rfl) (by kernel_rfl) (fun _ _ _ h => h) (Or.inl ⟨by rfl, ?_⟩) hHeld ?_
                rotate_left 1
                · intro W hSw
                  (try dsimp only at hSw)
                  go_simp
                  try with_reducible rfl
                try simp only [Act.put, List.setIfInBounds_toArray, List.set_cons_zero, List.set_cons_succ]
                refine wpAnyH_take (i := 1) (oi := { dst := some 126, op := Op.fieldAddr 40 (Operand.tmp 20) 1, type := 0, pos := "law.go:52", after := #[], guard := none }) (v := ?_) rfl (by kernel_rfl) (by kernel_rfl) (by kernel_rfl) (fun _ _ _ h => h) (Or.inl ⟨by rfl, ?_⟩) hHeld ?_
                rotate_left 1
                · intro W hSw
                  (try dsimp only at hSw)
                  go_simp
                  try with_reducible rfl
                try simp only [Act.put, List.setIfInBounds_toArray, List.set_cons_zero, List.set_cons_succ]
                refine wpAnyH_take (i := 2) (oi := { dst := some 127, op := Op.load 9 (Operand.tmp 126), type := 9, pos := "law.go:52", after := #[{ on := 1, ground := Ground.data }], guard := none }) (v := ?_) rfl (by kernel_rfl) (by kernel_rfl) (by kernel_rfl) (fun _ _ _ h => h) (Or.inl ⟨by rfl, ?_⟩) hHeld ?_
                rotate_left 1
                · intro W hSw
                  (try dsimp only at hSw)
                  go_simp
                  try with_reducible rfl
                try simp only [Act.put, List.setIfInBounds_toArray, List.set_cons_zero, List.set_cons_succ]
                refine wpAnyH_take (i := 4) (oi := { dst := some 129, op := Op.move (Operand.tmp 16), type := 34, pos := "law.go:52", after := #[], guard := none }) (v := ?_) rfl (by kernel_rfl) (by kernel_rfl) (by kernel_rfl) (fun _ _ _ h => h) (Or.inl ⟨by rfl, ?_⟩) hHeld ?_
                rotate_left 1
                · intro W hSw
                  (try dsimp only at hSw)
                  go_simp
                  try with_reducible rfl
                try simp only [Act.put, List.setIfInBounds_toArray, List.set_cons_zero, List.set_cons_succ]
                refine wpAnyH_take (i := 5) (oi := { dst := some 130, op := Op.fieldAddr 40 (Operand.tmp 20) 1, type := 0, pos := "law.go:52", after := #[], guard := none }) (v := ?_) rfl (by kernel_rfl) (by kernel_rfl) (by kernel_rfl) (fun _ _ _ h => h) (Or.inl ⟨by rfl, ?_⟩) hHeld ?_
                rotate_left 1
                · intro W hSw
                  (try dsimp only at hSw)
                  go_simp
                  try with_reducible rfl
                try simp only [Act.put, List.setIfInBounds_toArray, List.set_cons_zero, List.set_cons_succ]
                refine wpAnyH_take (i := 6) (oi := { dst := some 131, op := Op.load 9 (Operand.tmp 130), type := 9, pos := "law.go:52", after := #[{ on := 5, ground := Ground.data }], guard := none }) (v := ?_) rfl (by kernel_rfl) (by kernel_rfl) (by kernel_rfl) (fun _ _ _ h => h) (Or.inl ⟨by rfl, ?_⟩) hHeld ?_
                rotate_left 1
                · intro W hSw
                  (try dsimp only at hSw)
                  go_simp
                  try with_reducible rfl
                try simp only [Act.put, List.setIfInBounds_toArray, List.set_cons_zero, List.set_cons_succ]
                refine wpAnyH_ready (rs := [3]) (by kernel_rfl) (by simp) ?_
                refine AllReadyH.cons (o := { dst := some 128, op := Op.call { callee := Callee.value (Operand.func 14), args := #[Operand.tmp 125, Operand.tmp 127], argTypes := #[29, 9] }, type := 31, pos := "law.go:52", after := #[{ on := 0, ground := Ground.data }, { on := 2, ground := Ground.data }], guard := none }) rfl (fun KC hK => ?_) ?_
                · go_simp
                  refine HAs.out.mono ?_
                  rintro e w3 ⟨rfl, hb3, hc3⟩
                  have HC3 := Lib.hid hc3
                  have HB3 := Lib.hid hb3
                  clear hc3 hb3
                  refine hK.out _ _ ((HCl.out w3 HB3.out).2.1) (fun hHeld => ?_)
                  clear hK KC
                  try simp only [Act.put, List.setIfInBounds_toArray, List.set_cons_zero, List.set_cons_succ]
                  refine wpAnyH_ready (rs := [7]) (by kernel_rfl) (by simp) ?_
                  refine AllReadyH.cons (o := { dst := some 132, op := Op.call { callee := Callee.value (Operand.func 15), args := #[Operand.tmp 129, Operand.tmp 131], argTypes := #[34, 9] }, type := 3, pos := "law.go:52", after := #[{ on := 4, ground := Ground.data }, { on := 6, ground := Ground.data }, { on := 3, ground := Ground.chain }], guard := none }) rfl (fun KC hK => ?_) ?_
                  · go_simp
                    refine HC3.out.mono ?_
                    rintro e w4 ⟨rfl, hb4, hp4⟩
                    have HB4 := Lib.hid hb4
                    have HP4 := Lib.hid hp4
                    clear hb4 hp4
                    refine hK.out _ _ ((HCl.out w4 HB4.out).2.1) (fun hHeld => ?_)
                    clear hK KC
                    try simp only [Act.put, List.setIfInBounds_toArray, List.set_cons_zero, List.set_cons_succ]
                    refine wpAnyH_take (i := 8) (oi := { dst := some 133, op := Op.binOp BinOp.neq 3 (Operand.tmp 128) (Operand.tmp 132) 3, type := 4, pos := "law.go:52", after := #[{ on := 3, ground := Ground.data }, { on := 7, ground := Ground.data }], guard := none }) (v := ?_) rfl (by kernel_rfl) (by kernel_rfl) (by kernel_rfl) (fun _ _ _ h => h) (Or.inl ⟨by rfl, ?_⟩) hHeld ?_
                    rotate_left 1
                    · intro W hSw
                      (try dsimp only at hSw)
                      go_simp
                      try with_reducible rfl
                    try simp only [Act.put, List.setIfInBounds_toArray, List.set_cons_zero, List.set_cons_succ]
                    refine wpAnyH_done (by kernel_rfl) ?_ _
                    clear hHeld
                    go_wp2_with fail
                    go_meet
                    case rel => exact ⟨rfl, HB4.out, J, K, rfl, rfl, HP4.out⟩
                  exact AllReadyH.nil
                exact AllReadyH.nil
                --P24E
              have hk1 : True → (act.kind == 1) = false := fun _ => by simp [h1]
              by_cases h2 : act.kind = 2
              · have HAs0 := HPq.out.restart_asked (B := B) HBz.out.2.2.1 HBz.out.2.2.2
                unfold Asked at HAs0
                have HAs := Lib.hid HAs0
                clear HAs0 h1
                go_wp2_with fail
                refine HAs.out.mono ?_
                rintro e w3 ⟨rfl, hb3, hc3⟩
                have HC3 := Lib.hid hc3
                clear hc3 hb3
                go_wp2_with fail
                refine HC3.out.mono ?_
                rintro e w4 ⟨rfl, hb4, hp4⟩
                have HB4 := Lib.hid hb4; have HP4 := Lib.hid (hp4.weak (show 5000 * q ≤ 5000 * q + 5000 by omega))
                clear hb4 hp4
                go_wp2_with fail
                go_meet
                case rel => exact ⟨rfl, HB4.out, J, K, rfl, rfl, HP4.out⟩
              have hk2 : True → (act.kind == 2) = false := fun _ => by simp [h2]
              by_cases h3 : act.kind = 3
              · have HAs0 := HPq.out.cut_asked act.n HOk.out.2.1.2 act.pick HOk.out.2.2 (B := B) HT4.out HBz.out.1 HBz.out.2.1
                unfold Asked at HAs0
                have HAs := Lib.hid HAs0
                obtain ⟨c0, c1, c2, c3, c4⟩ := HCl.out W1 rfl
                clear HAs0 h1 h2
                go_wp2_with fail
                refine HAs.out.mono ?_
                rintro e w3 ⟨rfl, hb3, hc3⟩
                have HC3 := Lib.hid hc3
                clear c0 c1 c2 c3 c4
                obtain ⟨c0, c1, c2, c3, c4⟩ := HCl.out w3 hb3
                clear hc3 hb3
                go_wp2_with fail
                refine HC3.out.mono ?_
                rintro e w4 ⟨rfl, hb4, hp4⟩
                have HB4 := Lib.hid hb4; have HP4 := Lib.hid hp4
                clear hb4 hp4 c0 c1 c2 c3 c4
                go_wp2_with fail
                go_meet
                case rel => exact ⟨rfl, HB4.out, J, K, rfl, rfl, HP4.out⟩
              have hk3 : True → (act.kind == 3) = false := fun _ => by simp [h3]
              by_cases h4 : act.kind = 4
              · have HAs0 := HPq.out.on_asked (B := B) HT4.out HBz.out.1 HBz.out.2.1
                unfold Asked at HAs0
                have HAs := Lib.hid HAs0
                obtain ⟨c0, c1, c2, c3, c4⟩ := HCl.out W1 rfl
                clear HAs0 h1 h2 h3
                go_wp2_with fail
                refine HAs.out.mono ?_
                rintro e w3 ⟨rfl, hb3, hc3⟩
                have HC3 := Lib.hid hc3
                clear c0 c1 c2 c3 c4
                clear hc3 hb3
                go_wp2_with fail
                refine HC3.out.mono ?_
                rintro e w4 ⟨rfl, hb4, m4, Z4, Y4, hp4, hz4, hy4⟩
                have HBW := Lib.hid hb4; have HP4 := Lib.hid hp4
                have HBlt := Lib.hid (show B < w4.heap.size from (Array.getElem?_eq_some_iff.1 (hb4.trans (Array.getElem?_eq_getElem HT4.out))).1)
                have HPk := Lib.hid (show PlaysAt w w4 d r J K f n (5000 * q) from ⟨_, _, _, _, _, _, hp4⟩)
                have HOp := Lib.hid (hp4.open_asked HNb.out HN1.out act.first HBlt.out)
                clear hb4 hp4 hz4 hy4
                obtain ⟨c0, c1, c2, c3, c4⟩ := HCl.out w4 HBW.out
                clear h4
                rcases HOp.out with ⟨er, her, g1, g2⟩ | ⟨xs, g1⟩
                · have HG1 := Lib.hid g1; have HG2 := Lib.hid g2; have HEr := Lib.hid her
                  clear g1 g2 her
                  go_wp2_with fail
                  refine HG1.out.mono ?_
                  rintro e w' ⟨rfl, rfl⟩
                  clear c0 c1 c2 c3 c4
                  obtain ⟨c0, c1, c2, c3, c4⟩ := HCl.out w4 HBW.out
                  go_wp2_with fail
                  refine HG2.out.mono ?_
                  rintro e w' ⟨rfl, rfl⟩
                  have HTx := Lib.hid (texts_any (.slice none 0 0) (.slice none 0 0) [] [] w4 (SlT.nil w4 0) (SlT.nil w4 0))
                  go_wp2_with fail
                  refine HTx.out.mono ?_
                  rintro e w7 ⟨rfl, hb7⟩
                  have HB7 := Lib.hid ((hb7.block B HBlt.out).trans HBW.out)
                  have HP7 := Lib.hid ((HPk.out.keep hb7).weak (show 5000 * q ≤ 5000 * q + 5000 by omega))
                  simp only [decide_true]
                  have her := HEr.out
                  have hern : True → (er == 0) = false := fun _ => by simp [her]
                  clear hb7 c0 c1 c2 c3 c4 her
                  go_wp2_with fail
                  go_meet
                  case rel => exact ⟨rfl, HB7.out, J, K, rfl, rfl, HP7.out⟩
                · have HG1 := Lib.hid g1
                  clear g1
                  go_wp2_with fail
                  refine HG1.out.mono ?_
                  rintro e w5 ⟨J5, v5, rfl, hb5, hc5⟩
                  have HC5 := Lib.hid hc5
                  clear hc5 c0 c1 c2 c3 c4
                  obtain ⟨c0, c1, c2, c3, c4⟩ := HCl.out w5 (hb5.trans HBW.out)
                  clear hb5
                  go_wp2_with fail
                  refine HC5.out.mono ?_
                  rintro e w6 ⟨K6, v6, rfl, hb6, hs5, hs6, hp6⟩
                  have HP6 := Lib.hid hp6
                  have HB6 := Lib.hid (hb6.trans HBW.out)
                  have HTx := Lib.hid (texts_any v5 v6 xs xs w6 hs5 hs6)
                  have HBl6 := Lib.hid (show B < w6.heap.size from (Array.getElem?_eq_some_iff.1 (HB6.out.trans (Array.getElem?_eq_getElem HT4.out))).1)
                  clear hb6 hs5 hs6 hp6 c0 c1 c2 c3 c4
                  go_wp2_with fail
                  refine HTx.out.mono ?_
                  rintro e w7 ⟨rfl, hb7⟩
                  have HB7 := Lib.hid ((hb7.block B HBl6.out).trans HB6.out)
                  have HP7 := Lib.hid ((HP6.out.keep hb7).weak (show 5000 * q ≤ 5000 * q + 5000 by omega))
                  simp only [decide_true]
                  clear hb7
                  go_wp2_with fail
                  go_meet
                  case rel => exact ⟨rfl, HB7.out, J5, K6, rfl, rfl, HP7.out⟩
              have hk4 : True → (act.kind == 4) = false := fun _ => by simp [h4]
              have HBlt := HT4
              have HPk := Lib.hid (show PlaysAt w W1 d r J K f n (5000 * q) from ⟨_, _, _, _, _, _, HPq.out⟩)
              have HOp := Lib.hid (HPq.out.open_asked HNb.out HN1.out act.first HBlt.out)
              obtain ⟨c0, c1, c2, c3, c4⟩ := HCl.out W1 rfl
              clear h1 h2 h3 h4
              rcases HOp.out with ⟨er, her, g1, g2⟩ | ⟨xs, g1⟩
              · have HG1 := Lib.hid g1; have HG2 := Lib.hid g2; have HEr := Lib.hid her
                clear g1 g2 her
                go_wp2_with fail
                refine HG1.out.mono ?_
                rintro e w' ⟨rfl, rfl⟩
                clear c0 c1 c2 c3 c4
                obtain ⟨c0, c1, c2, c3, c4⟩ := HCl.out W1 (rfl : W1.heap[B]? = W1.heap[B]?)
                go_wp2_with fail
                refine HG2.out.mono ?_
                rintro e w' ⟨rfl, rfl⟩
                have HTx := Lib.hid (texts_any (.slice none 0 0) (.slice none 0 0) [] [] W1 (SlT.nil W1 0) (SlT.nil W1 0))
                go_wp2_with fail
                refine HTx.out.mono ?_
                rintro e w7 ⟨rfl, hb7⟩
                have HB7 := Lib.hid ((hb7.block B HBlt.out).trans (rfl : W1.heap[B]? = W1.heap[B]?))
                have HP7 := Lib.hid ((HPk.out.keep hb7).weak (show 5000 * q ≤ 5000 * q + 5000 by omega))
                simp only [decide_true]
                have her := HEr.out
                have hern : True → (er == 0) = false := fun _ => by simp [her]
                clear hb7 c0 c1 c2 c3 c4 her
                go_wp2_with fail
                go_meet
                case rel => exact ⟨rfl, HB7.out, J, K, rfl, rfl, HP7.out⟩
              · have HG1 := Lib.hid g1
                clear g1
                go_wp2_with fail
                refine HG1.out.mono ?_
                rintro e w5 ⟨J5, v5, rfl, hb5, hc5⟩
                have HC5 := Lib.hid hc5
                clear hc5 c0 c1 c2 c3 c4
                obtain ⟨c0, c1, c2, c3, c4⟩ := HCl.out w5 (hb5.trans (rfl : W1.heap[B]? = W1.heap[B]?))
                clear hb5
                go_wp2_with fail
                refine HC5.out.mono ?_
                rintro e w6 ⟨K6, v6, rfl, hb6, hs5, hs6, hp6⟩
                have HP6 := Lib.hid hp6
                have HB6 := Lib.hid (hb6.trans (rfl : W1.heap[B]? = W1.heap[B]?))
                have HTx := Lib.hid (texts_any v5 v6 xs xs w6 hs5 hs6)
                have HBl6 := Lib.hid (show B < w6.heap.size from (Array.getElem?_eq_some_iff.1 (HB6.out.trans (Array.getElem?_eq_getElem HT4.out))).1)
                clear hb6 hs5 hs6 hp6 c0 c1 c2 c3 c4
                go_wp2_with fail
                refine HTx.out.mono ?_
                rintro e w7 ⟨rfl, hb7⟩
                have HB7 := Lib.hid ((hb7.block B HBl6.out).trans HB6.out)
                have HP7 := Lib.hid ((HP6.out.keep hb7).weak (show 5000 * q ≤ 5000 * q + 5000 by omega))
                simp only [decide_true]
                clear hb7
                go_wp2_with fail
                go_meet
                case rel => exact ⟨rfl, HB7.out, J5, K6, rfl, rfl, HP7.out⟩
            case rest =>
              obtain ⟨rfl, hbx, J2, K2, rfl, rfl, m2, Z2, Y2, a2, num2, bad2, hP2⟩ := hcut
              have HPd := Lib.hid (hP2.keep (drewBelow wc))
              have HBx := Lib.hid (show wc.drew.heap[B]? = W1.heap[B]? from hbx)
              clear hbx hP2 HPq
              go_upto_region 32 with fail
              obtain ⟨wd, hwd⟩ : ∃ x, x = wc.drew := ⟨_, rfl⟩
              rw [← hwd] at HPd HBx
              have HI := Lib.hid (fun u (hu : Below wd.heap.size wd u) => Image_any u Z2 d m2 (HPd.out.both.dev.keep hu))
              have HrI := Lib.hid (fun u (hu : Below wd.heap.size wd u) => rImage_any u Y2 r m2 (HPd.out.both.doc.keep hu))
              have HNx := Lib.hid (fun u (hu : Below wd.heap.size wd u) => Next_any u J2 _ f (f + n) (f + a2) num2 bad2 (JBox.v (JAt.keep HPd.out.jr (hu.block J2 HPd.out.jr.lt))))
              have HrNx := Lib.hid (fun u (hu : Below wd.heap.size wd u) => rNext_any u K2 r f n a2 num2 bad2 (HPd.out.rj.keep hu))
              have hb96 : f + n ≤ 4096 := by have := HPd.out.fn; have := HPd.out.both.dev.1.n; omega
              have HRm := Lib.hid (fun u (hu : Below wd.heap.size wd u) => Room_any u J2 _ f (f + n) (f + a2) num2 bad2 (JBox.v (JAt.keep HPd.out.jr (hu.block J2 HPd.out.jr.lt))) (by have := HPd.out.an; omega) (by omega))
              have HrRm := Lib.hid (fun u (hu : Below wd.heap.size wd u) => rRoom_any u K2 r f n a2 num2 bad2 (HPd.out.rj.keep hu) HPd.out.an (by omega))
              have HNd := Lib.hid (fun u => Need_any act.n u HOk.out.2.1.1 HOk.out.2.1.2)
              have HrNd := Lib.hid (fun u => rNeed_any act.n u HOk.out.2.1.1 HOk.out.2.1.2)
              have HBlt := Lib.hid (show B < wd.heap.size from (Array.getElem?_eq_some_iff.1 (HBx.out.trans (Array.getElem?_eq_getElem HT4.out))).1)
              have HS2 := Lib.hid (fun u (hu : Below wd.heap.size wd u) => (HCl.out u ((hu.block B HBlt.out).trans HBx.out)).2.2.1)
              have HPz := Lib.hid (fun u (hu : Below wd.heap.size wd u) => show PlaysAt w u d r J2 K2 f n (5000 * (q + 1)) from PlaysAt.weak ⟨_, _, _, _, _, _, HPd.out.keep hu⟩ (by omega))
              obtain ⟨rv, hrv⟩ : ∃ x, roomV (f + n) (f + a2) num2 = x := ⟨_, rfl⟩
              obtain ⟨nv, hnv⟩ : ∃ x, need act.n.toNat = x := ⟨_, rfl⟩
              rw [hrv] at HRm HrRm
              rw [hnv] at HNd HrNd
              obtain ⟨s, hs⟩ : ∃ x, strN m2.laid = x := ⟨_, rfl⟩
              have HStr := Lib.hid hs
              have HBz := Lib.hid (Below.refl wd.heap.size wd)
              clear hb96 hrv hnv hs
              subst hwd
              --P32
              refine wp_region_held_drew (S := fun u => u.cell? ⟨B, 2, none⟩ = some (.int .i64 act.n)) (by kernel_rfl) (HS2.out _ HBz.out) (fun hHeld => ?_)
              refine wpAnyH_take (i := 0) (oi := { dst := some 154, op := Op.move (Operand.tmp 11), type := 24, pos := "law.go:75", after := #[], guard := none }) (v := ?_) rfl (by kernel_rfl) (by kernel_rfl) (by kernel_rfl) (fun _ _ _ h => h) (Or.inl ⟨by rfl, ?_⟩) hHeld ?_
              rotate_left 1
              · intro W hSw
                (try dsimp only at hSw)
                go_simp
                try with_reducible rfl
              try simp only [Act.put, List.setIfInBounds_toArray, List.set_cons_zero, List.set_cons_succ]
              refine wpAnyH_take (i := 3) (oi := { dst := some 157, op := Op.move (Operand.tmp 12), type := 26, pos := "law.go:75", after := #[], guard := none }) (v := ?_) rfl (by kernel_rfl) (by kernel_rfl) (by kernel_rfl) (fun _ _ _ h => h) (Or.inl ⟨by rfl, ?_⟩) hHeld ?_
              rotate_left 1
              · intro W hSw
                (try dsimp only at hSw)
                go_simp
                try with_reducible rfl
              try simp only [Act.put, List.setIfInBounds_toArray, List.set_cons_zero, List.set_cons_succ]
              refine wpAnyH_ready (rs := [1]) (by kernel_rfl) (by simp) ?_
              refine AllReadyH.cons (o := { dst := some 155, op := Op.call { callee := Callee.value (Operand.func 22), args := #[Operand.tmp 154], argTypes := #[24] }, type := 22, pos := "law.go:75", after := #[{ on := 0, ground := Ground.data }], guard := none }) rfl (fun KC hK => ?_) ?_
              · go_simp
                refine (HI.out _ HBz.out).mono ?_
                rintro e wz ⟨⟨v1, rfl, ho1⟩, hbz⟩
                obtain ⟨x1, y1, rfl⟩ := own_any ho1
                have HSa := Lib.hid ho1.read
                have HBz := Lib.hid (HBz.out.trans (hbz.mono HBz.out.size))
                clear ho1 hbz
                refine hK.out _ _ (HS2.out _ HBz.out) (fun hHeld => ?_)
                clear hK KC
                try simp only [Act.put, List.setIfInBounds_toArray, List.set_cons_zero, List.set_cons_succ]
                refine wpAnyH_ready (rs := [2, 4]) (by kernel_rfl) (by simp) ?_
                refine AllReadyH.cons (o := { dst := some 156, op := Op.convert 22 9 (Operand.tmp 155), type := 9, pos := "law.go:75", after := #[{ on := 1, ground := Ground.data }], guard := none }) rfl (fun KC hK => ?_) ?_
                · have hc1 := conv_sl HSa.out
                  rw [HStr.out] at hc1
                  go_simp
                  clear hc1
                  refine hK.out _ _ (HS2.out _ HBz.out) (fun hHeld => ?_)
                  clear hK KC
                  try simp only [Act.put, List.setIfInBounds_toArray, List.set_cons_zero, List.set_cons_succ]
                  refine wpAnyH_ready (rs := [4]) (by kernel_rfl) (by simp) ?_
                  refine AllReadyH.cons (o := { dst := some 158, op := Op.call { callee := Callee.value (Operand.func 23), args := #[Operand.tmp 157], argTypes := #[26] }, type := 22, pos := "law.go:75", after := #[{ on := 3, ground := Ground.data }, { on := 1, ground := Ground.chain }], guard := none }) rfl (fun KC hK => ?_) ?_
                  · go_simp
                    refine (HrI.out _ HBz.out).mono ?_
                    rintro e wz ⟨⟨v2, rfl, ho2⟩, hbz⟩
                    obtain ⟨x2, y2, rfl⟩ := own_any ho2
                    have HSb := Lib.hid ho2.read
                    have HSa := Lib.hid (HSa.out.keep hbz)
                    have HBz := Lib.hid (HBz.out.trans (hbz.mono HBz.out.size))
                    clear ho2 hbz
                    refine hK.out _ _ (HS2.out _ HBz.out) (fun hHeld => ?_)
                    clear hK KC
                    try simp only [Act.put, List.setIfInBounds_toArray, List.set_cons_zero, List.set_cons_succ]
                    refine wpAnyH_ready (rs := [5]) (by kernel_rfl) (by simp) ?_
                    refine AllReadyH.cons (o := { dst := some 159, op := Op.convert 22 9 (Operand.tmp 158), type := 9, pos := "law.go:75", after := #[{ on := 4, ground := Ground.data }], guard := none }) rfl (fun KC hK => ?_) ?_
                    · have hc2 := conv_sl HSb.out
                      rw [HStr.out] at hc2
                      go_simp
                      clear hc2
                      refine hK.out _ _ (HS2.out _ HBz.out) (fun hHeld => ?_)
                      clear hK KC
                      try simp only [Act.put, List.setIfInBounds_toArray, List.set_cons_zero, List.set_cons_succ]
                      refine wpAnyH_take (i := 6) (oi := { dst := some 160, op := Op.binOp BinOp.neq 9 (Operand.tmp 156) (Operand.tmp 159) 9, type := 4, pos := "law.go:75", after := #[{ on := 2, ground := Ground.data }, { on := 5, ground := Ground.data }], guard := none }) (v := ?_) rfl (by kernel_rfl) (by kernel_rfl) (by kernel_rfl) (fun _ _ _ h => h) (Or.inl ⟨by rfl, ?_⟩) hHeld ?_
                      rotate_left 1
                      · intro W hSw
                        (try dsimp only at hSw)
                        go_simp
                        try with_reducible rfl
                      try simp only [Act.put, List.setIfInBounds_toArray, List.set_cons_zero, List.set_cons_succ]
                      refine wpAnyH_take (i := 7) (oi := { dst := some 161, op := Op.move (Operand.tmp 160), type := 4, pos := "law.go:75", after := #[{ on := 6, ground := Ground.data }, { on := 4, ground := Ground.chain }], guard := none }) (v := ?_) rfl (by kernel_rfl) (by kernel_rfl) (by kernel_rfl) (fun _ _ _ h => h) (Or.inl ⟨by rfl, ?_⟩) hHeld ?_
                      rotate_left 1
                      · intro W hSw
                        (try dsimp only at hSw)
                        go_simp
                        try with_reducible rfl
                      try simp only [Act.put, List.setIfInBounds_toArray, List.set_cons_zero, List.set_cons_succ]
                      refine wpAnyH_take (i := 8) (oi := { dst := some 162, op := Op.move (Operand.tmp 13), type := 29, pos := "law.go:75", after := #[{ on := 7, ground := Ground.guard }], guard := some (7, false) }) (v := ?_) rfl (by kernel_rfl) (by kernel_rfl) (by kernel_rfl) (fun _ _ _ h => h) (Or.inl ⟨by rfl, ?_⟩) hHeld ?_
                      rotate_left 1
                      · intro W hSw
                        (try dsimp only at hSw)
                        go_simp
                        try with_reducible rfl
                      try simp only [Act.put, List.setIfInBounds_toArray, List.set_cons_zero, List.set_cons_succ]
                      refine wpAnyH_take (i := 10) (oi := { dst := some 164, op := Op.move (Operand.tmp 16), type := 34, pos := "law.go:75", after := #[{ on := 7, ground := Ground.guard }], guard := some (7, false) }) (v := ?_) rfl (by kernel_rfl) (by kernel_rfl) (by kernel_rfl) (fun _ _ _ h => h) (Or.inl ⟨by rfl, ?_⟩) hHeld ?_
                      rotate_left 1
                      · intro W hSw
                        (try dsimp only at hSw)
                        go_simp
                        try with_reducible rfl
                      try simp only [Act.put, List.setIfInBounds_toArray, List.set_cons_zero, List.set_cons_succ]
                      refine wpAnyH_ready (rs := [9]) (by kernel_rfl) (by simp) ?_
                      refine AllReadyH.cons (o := { dst := some 163, op := Op.call { callee := Callee.value (Operand.func 24), args := #[Operand.tmp 162], argTypes := #[29] }, type := 2, pos := "law.go:75", after := #[{ on := 8, ground := Ground.data }, { on := 7, ground := Ground.chain }, { on := 7, ground := Ground.guard }], guard := some (7, false) }) rfl (fun KC hK => ?_) ?_
                      · go_simp
                        refine (HNx.out _ HBz.out).mono ?_
                        rintro e wz2 ⟨rfl, rfl⟩
                        refine hK.out _ _ (HS2.out _ HBz.out) (fun hHeld => ?_)
                        clear hK KC
                        try simp only [Act.put, List.setIfInBounds_toArray, List.set_cons_zero, List.set_cons_succ]
                        refine wpAnyH_ready (rs := [11]) (by kernel_rfl) (by simp) ?_
                        refine AllReadyH.cons (o := { dst := some 165, op := Op.call { callee := Callee.value (Operand.func 25), args := #[Operand.tmp 164], argTypes := #[34] }, type := 2, pos := "law.go:75", after := #[{ on := 10, ground := Ground.data }, { on := 9, ground := Ground.chain }, { on := 7, ground := Ground.guard }], guard := some (7, false) }) rfl (fun KC hK => ?_) ?_
                        · go_simp
                          refine (HrNx.out _ HBz.out).mono ?_
                          rintro e wz2 ⟨rfl, rfl⟩
                          refine hK.out _ _ (HS2.out _ HBz.out) (fun hHeld => ?_)
                          clear hK KC
                          try simp only [Act.put, List.setIfInBounds_toArray, List.set_cons_zero, List.set_cons_succ]
                          refine wpAnyH_take (i := 12) (oi := { dst := some 166, op := Op.binOp BinOp.neq 2 (Operand.tmp 163) (Operand.tmp 165) 2, type := 4, pos := "law.go:75", after := #[{ on := 9, ground := Ground.data }, { on := 11, ground := Ground.data }, { on := 7, ground := Ground.guard }], guard := some (7, false) }) (v := ?_) rfl (by kernel_rfl) (by kernel_rfl) (by kernel_rfl) (fun _ _ _ h => h) (Or.inl ⟨by rfl, ?_⟩) hHeld ?_
                          rotate_left 1
                          · intro W hSw
                            (try dsimp only at hSw)
                            go_simp
                            try with_reducible rfl
                          try simp only [Act.put, List.setIfInBounds_toArray, List.set_cons_zero, List.set_cons_succ]
                          refine wpAnyH_take (i := 13) (oi := { dst := some 167, op := Op.pick (Operand.tmp 161) (Operand.const (Value.bool true)) (Operand.tmp 166), type := 4, pos := "law.go:75", after := #[{ on := 7, ground := Ground.data }, { on := 12, ground := Ground.data }], guard := none }) (v := ?_) rfl (by kernel_rfl) (by kernel_rfl) (by kernel_rfl) (fun _ _ _ h => h) (Or.inl ⟨by rfl, ?_⟩) hHeld ?_
                          rotate_left 1
                          · intro W hSw
                            (try dsimp only at hSw)
                            go_simp
                            try with_reducible rfl
                          try simp only [Act.put, List.setIfInBounds_toArray, List.set_cons_zero, List.set_cons_succ]
                          refine wpAnyH_take (i := 14) (oi := { dst := some 168, op := Op.move (Operand.tmp 167), type := 4, pos := "law.go:75", after := #[{ on := 13, ground := Ground.data }, { on := 11, ground := Ground.chain }], guard := none }) (v := ?_) rfl (by kernel_rfl) (by kernel_rfl) (by kernel_rfl) (fun _ _ _ h => h) (Or.inl ⟨by rfl, ?_⟩) hHeld ?_
                          rotate_left 1
                          · intro W hSw
                            (try dsimp only at hSw)
                            go_simp
                            try with_reducible rfl
                          try simp only [Act.put, List.setIfInBounds_toArray, List.set_cons_zero, List.set_cons_succ]
                          refine wpAnyH_take (i := 15) (oi := { dst := some 169, op := Op.move (Operand.tmp 13), type := 29, pos := "law.go:75", after := #[{ on := 14, ground := Ground.guard }], guard := some (14, false) }) (v := ?_) rfl (by kernel_rfl) (by kernel_rfl) (by kernel_rfl) (fun _ _ _ h => h) (Or.inl ⟨by rfl, ?_⟩) hHeld ?_
                          rotate_left 1
                          · intro W hSw
                            (try dsimp only at hSw)
                            go_simp
                            try with_reducible rfl
                          try simp only [Act.put, List.setIfInBounds_toArray, List.set_cons_zero, List.set_cons_succ]
                          refine wpAnyH_take (i := 17) (oi := { dst := some 171, op := Op.move (Operand.tmp 16), type := 34, pos := "law.go:75", after := #[{ on := 14, ground := Ground.guard }], guard := some (14, false) }) (v := ?_) rfl (by kernel_rfl) (by kernel_rfl) (by kernel_rfl) (fun _ _ _ h => h) (Or.inl ⟨by rfl, ?_⟩) hHeld ?_
                          rotate_left 1
                          · intro W hSw
                            (try dsimp only at hSw)
                            go_simp
                            try with_reducible rfl
                          try simp only [Act.put, List.setIfInBounds_toArray, List.set_cons_zero, List.set_cons_succ]
                          refine wpAnyH_ready (rs := [16]) (by kernel_rfl) (by simp) ?_
                          refine AllReadyH.cons (o := { dst := some 170, op := Op.call { callee := Callee.value (Operand.func 26), args := #[Operand.tmp 169], argTypes := #[29] }, type := 3, pos := "law.go:75", after := #[{ on := 15, ground := Ground.data }, { on := 14, ground := Ground.chain }, { on := 14, ground := Ground.guard }], guard := some (14, false) }) rfl (fun KC hK => ?_) ?_
                          · go_simp
                            refine (HRm.out _ HBz.out).mono ?_
                            rintro e wz2 ⟨rfl, nq, rfl⟩
                            have HBz := Lib.hid (HBz.out.drewN' nq)
                            refine hK.out _ _ (HS2.out _ HBz.out) (fun hHeld => ?_)
                            clear hK KC
                            try simp only [Act.put, List.setIfInBounds_toArray, List.set_cons_zero, List.set_cons_succ]
                            refine wpAnyH_ready (rs := [18]) (by kernel_rfl) (by simp) ?_
                            refine AllReadyH.cons (o := { dst := some 172, op := Op.call { callee := Callee.value (Operand.func 27), args := #[Operand.tmp 171], argTypes := #[34] }, type := 3, pos := "law.go:75", after := #[{ on := 17, ground := Ground.data }, { on := 16, ground := Ground.chain }, { on := 14, ground := Ground.guard }], guard := some (14, false) }) rfl (fun KC hK => ?_) ?_
                            · go_simp
                              refine (HrRm.out _ HBz.out).mono ?_
                              rintro e wz2 ⟨rfl, nq, rfl⟩
                              have HBz := Lib.hid (HBz.out.drewN' nq)
                              refine hK.out _ _ (HS2.out _ HBz.out) (fun hHeld => ?_)
                              clear hK KC
                              try simp only [Act.put, List.setIfInBounds_toArray, List.set_cons_zero, List.set_cons_succ]
                              refine wpAnyH_take (i := 19) (oi := { dst := some 173, op := Op.binOp BinOp.neq 3 (Operand.tmp 170) (Operand.tmp 172) 3, type := 4, pos := "law.go:75", after := #[{ on := 16, ground := Ground.data }, { on := 18, ground := Ground.data }, { on := 14, ground := Ground.guard }], guard := some (14, false) }) (v := ?_) rfl (by kernel_rfl) (by kernel_rfl) (by kernel_rfl) (fun _ _ _ h => h) (Or.inl ⟨by rfl, ?_⟩) hHeld ?_
                              rotate_left 1
                              · intro W hSw
                                (try dsimp only at hSw)
                                go_simp
                                try with_reducible rfl
                              try simp only [Act.put, List.setIfInBounds_toArray, List.set_cons_zero, List.set_cons_succ]
                              refine wpAnyH_take (i := 20) (oi := { dst := some 174, op := Op.pick (Operand.tmp 168) (Operand.const (Value.bool true)) (Operand.tmp 173), type := 4, pos := "law.go:75", after := #[{ on := 14, ground := Ground.data }, { on := 19, ground := Ground.data }], guard := none }) (v := ?_) rfl (by kernel_rfl) (by kernel_rfl) (by kernel_rfl) (fun _ _ _ h => h) (Or.inl ⟨by rfl, ?_⟩) hHeld ?_
                              rotate_left 1
                              · intro W hSw
                                (try dsimp only at hSw)
                                go_simp
                                try with_reducible rfl
                              try simp only [Act.put, List.setIfInBounds_toArray, List.set_cons_zero, List.set_cons_succ]
                              refine wpAnyH_take (i := 21) (oi := { dst := some 175, op := Op.move (Operand.tmp 174), type := 4, pos := "law.go:75", after := #[{ on := 20, ground := Ground.data }, { on := 18, ground := Ground.chain }], guard := none }) (v := ?_) rfl (by kernel_rfl) (by kernel_rfl) (by kernel_rfl) (fun _ _ _ h => h) (Or.inl ⟨by rfl, ?_⟩) hHeld ?_
                              rotate_left 1
                              · intro W hSw
                                (try dsimp only at hSw)
                                go_simp
                                try with_reducible rfl
                              try simp only [Act.put, List.setIfInBounds_toArray, List.set_cons_zero, List.set_cons_succ]
                              refine wpAnyH_take (i := 22) (oi := { dst := some 176, op := Op.fieldAddr 40 (Operand.tmp 20) 2, type := 0, pos := "law.go:75", after := #[{ on := 21, ground := Ground.guard }], guard := some (21, false) }) (v := ?_) rfl (by kernel_rfl) (by kernel_rfl) (by kernel_rfl) (fun _ _ _ h => h) (Or.inl ⟨by rfl, ?_⟩) hHeld ?_
                              rotate_left 1
                              · intro W hSw
                                (try dsimp only at hSw)
                                go_simp
                                try with_reducible rfl
                              try simp only [Act.put, List.setIfInBounds_toArray, List.set_cons_zero, List.set_cons_succ]
                              refine wpAnyH_take (i := 23) (oi := { dst := some 177, op := Op.load 3 (Operand.tmp 176), type := 3, pos := "law.go:75", after := #[{ on := 22, ground := Ground.data }, { on := 21, ground := Ground.guard }], guard := some (21, false) }) (v := ?_) rfl (by kernel_rfl) (by kernel_rfl) (by kernel_rfl) (fun _ _ _ h => h) (Or.inl ⟨by rfl, ?_⟩) hHeld ?_
                              rotate_left 1
                              · intro W hSw
                                (try dsimp only at hSw)
                                go_simp
                                try with_reducible rfl
                              try simp only [Act.put, List.setIfInBounds_toArray, List.set_cons_zero, List.set_cons_succ]
                              refine wpAnyH_take (i := 25) (oi := { dst := some 179, op := Op.fieldAddr 40 (Operand.tmp 20) 2, type := 0, pos := "law.go:75", after := #[{ on := 21, ground := Ground.guard }], guard := some (21, false) }) (v := ?_) rfl (by kernel_rfl) (by kernel_rfl) (by kernel_rfl) (fun _ _ _ h => h) (Or.inl ⟨by rfl, ?_⟩) hHeld ?_
                              rotate_left 1
                              · intro W hSw
                                (try dsimp only at hSw)
                                go_simp
                                try with_reducible rfl
                              try simp only [Act.put, List.setIfInBounds_toArray, List.set_cons_zero, List.set_cons_succ]
                              refine wpAnyH_take (i := 26) (oi := { dst := some 180, op := Op.load 3 (Operand.tmp 179), type := 3, pos := "law.go:75", after := #[{ on := 25, ground := Ground.data }, { on := 21, ground := Ground.guard }], guard := some (21, false) }) (v := ?_) rfl (by kernel_rfl) (by kernel_rfl) (by kernel_rfl) (fun _ _ _ h => h) (Or.inl ⟨by rfl, ?_⟩) hHeld ?_
                              rotate_left 1
                              · intro W hSw
                                (try dsimp only at hSw)
                                go_simp
                                try with_reducible rfl
                              try simp only [Act.put, List.setIfInBounds_toArray, List.set_cons_zero, List.set_cons_succ]
                              refine wpAnyH_ready (rs := [24]) (by kernel_rfl) (by simp) ?_
                              refine AllReadyH.cons (o := { dst := some 178, op := Op.call { callee := Callee.value (Operand.func 28), args := #[Operand.tmp 177], argTypes := #[3] }, type := 3, pos := "law.go:75", after := #[{ on := 23, ground := Ground.data }, { on := 21, ground := Ground.chain }, { on := 21, ground := Ground.guard }], guard := some (21, false) }) rfl (fun KC hK => ?_) ?_
                              · have HBz := Lib.hid (below_drew2 HBz.out)
                                go_simp
                                refine (HNd.out _).mono ?_
                                rintro e wz2 ⟨rfl, rfl⟩
                                refine hK.out _ _ (HS2.out _ HBz.out) (fun hHeld => ?_)
                                clear hK KC
                                try simp only [Act.put, List.setIfInBounds_toArray, List.set_cons_zero, List.set_cons_succ]
                                refine wpAnyH_ready (rs := [27]) (by kernel_rfl) (by simp) ?_
                                refine AllReadyH.cons (o := { dst := some 181, op := Op.call { callee := Callee.value (Operand.func 29), args := #[Operand.tmp 180], argTypes := #[3] }, type := 3, pos := "law.go:75", after := #[{ on := 26, ground := Ground.data }, { on := 24, ground := Ground.chain }, { on := 21, ground := Ground.guard }], guard := some (21, false) }) rfl (fun KC hK => ?_) ?_
                                · go_simp
                                  refine (HrNd.out _).mono ?_
                                  rintro e wz2 ⟨rfl, rfl⟩
                                  refine hK.out _ _ (HS2.out _ HBz.out) (fun hHeld => ?_)
                                  clear hK KC
                                  try simp only [Act.put, List.setIfInBounds_toArray, List.set_cons_zero, List.set_cons_succ]
                                  refine wpAnyH_take (i := 28) (oi := { dst := some 182, op := Op.binOp BinOp.neq 3 (Operand.tmp 178) (Operand.tmp 181) 3, type := 4, pos := "law.go:75", after := #[{ on := 24, ground := Ground.data }, { on := 27, ground := Ground.data }, { on := 21, ground := Ground.guard }], guard := some (21, false) }) (v := ?_) rfl (by kernel_rfl) (by kernel_rfl) (by kernel_rfl) (fun _ _ _ h => h) (Or.inl ⟨by rfl, ?_⟩) hHeld ?_
                                  rotate_left 1
                                  · intro W hSw
                                    (try dsimp only at hSw)
                                    go_simp
                                    try with_reducible rfl
                                  try simp only [Act.put, List.setIfInBounds_toArray, List.set_cons_zero, List.set_cons_succ]
                                  refine wpAnyH_take (i := 29) (oi := { dst := some 183, op := Op.pick (Operand.tmp 175) (Operand.const (Value.bool true)) (Operand.tmp 182), type := 4, pos := "law.go:75", after := #[{ on := 21, ground := Ground.data }, { on := 28, ground := Ground.data }], guard := none }) (v := ?_) rfl (by kernel_rfl) (by kernel_rfl) (by kernel_rfl) (fun _ _ _ h => h) (Or.inl ⟨by rfl, ?_⟩) hHeld ?_
                                  rotate_left 1
                                  · intro W hSw
                                    (try dsimp only at hSw)
                                    go_simp
                                    try with_reducible rfl
                                  try simp only [Act.put, List.setIfInBounds_toArray, List.set_cons_zero, List.set_cons_succ]
                                  refine wpAnyH_done (by kernel_rfl) ?_ _
                                  clear hHeld
                                  go_wp2_with fail
                                  go_roundw
                                  case rel => exact ⟨q + 1, J2, K2, by omega, by go_num, rfl, rfl, HPz.out _ HBz.out⟩
                                  case measure => simp [intOf]; omega
                                exact AllReadyH.nil
                              exact AllReadyH.nil
                            exact AllReadyH.nil
                          exact AllReadyH.nil
                        exact AllReadyH.nil
                      exact AllReadyH.nil
                    exact AllReadyH.nil
                  exact AllReadyH.nil
                refine AllReadyH.cons (o := { dst := some 158, op := Op.call { callee := Callee.value (Operand.func 23), args := #[Operand.tmp 157], argTypes := #[26] }, type := 22, pos := "law.go:75", after := #[{ on := 3, ground := Ground.data }, { on := 1, ground := Ground.chain }], guard := none }) rfl (fun KC hK => ?_) ?_
                · go_simp
                  refine (HrI.out _ HBz.out).mono ?_
                  rintro e wz ⟨⟨v2, rfl, ho2⟩, hbz⟩
                  obtain ⟨x2, y2, rfl⟩ := own_any ho2
                  have HSb := Lib.hid ho2.read
                  have HSa := Lib.hid (HSa.out.keep hbz)
                  have HBz := Lib.hid (HBz.out.trans (hbz.mono HBz.out.size))
                  clear ho2 hbz
                  refine hK.out _ _ (HS2.out _ HBz.out) (fun hHeld => ?_)
                  clear hK KC
                  try simp only [Act.put, List.setIfInBounds_toArray, List.set_cons_zero, List.set_cons_succ]
                  refine wpAnyH_ready (rs := [2, 5]) (by kernel_rfl) (by simp) ?_
                  refine AllReadyH.cons (o := { dst := some 156, op := Op.convert 22 9 (Operand.tmp 155), type := 9, pos := "law.go:75", after := #[{ on := 1, ground := Ground.data }], guard := none }) rfl (fun KC hK => ?_) ?_
                  · have hc1 := conv_sl HSa.out
                    rw [HStr.out] at hc1
                    go_simp
                    clear hc1
                    refine hK.out _ _ (HS2.out _ HBz.out) (fun hHeld => ?_)
                    clear hK KC
                    try simp only [Act.put, List.setIfInBounds_toArray, List.set_cons_zero, List.set_cons_succ]
                    refine wpAnyH_ready (rs := [5]) (by kernel_rfl) (by simp) ?_
                    refine AllReadyH.cons (o := { dst := some 159, op := Op.convert 22 9 (Operand.tmp 158), type := 9, pos := "law.go:75", after := #[{ on := 4, ground := Ground.data }], guard := none }) rfl (fun KC hK => ?_) ?_
                    · have hc2 := conv_sl HSb.out
                      rw [HStr.out] at hc2
                      go_simp
                      clear hc2
                      refine hK.out _ _ (HS2.out _ HBz.out) (fun hHeld => ?_)
                      clear hK KC
                      try simp only [Act.put, List.setIfInBounds_toArray, List.set_cons_zero, List.set_cons_succ]
                      refine wpAnyH_take (i := 6) (oi := { dst := some 160, op := Op.binOp BinOp.neq 9 (Operand.tmp 156) (Operand.tmp 159) 9, type := 4, pos := "law.go:75", after := #[{ on := 2, ground := Ground.data }, { on := 5, ground := Ground.data }], guard := none }) (v := ?_) rfl (by kernel_rfl) (by kernel_rfl) (by kernel_rfl) (fun _ _ _ h => h) (Or.inl ⟨by rfl, ?_⟩) hHeld ?_
                      rotate_left 1
                      · intro W hSw
                        (try dsimp only at hSw)
                        go_simp
                        try with_reducible rfl
                      try simp only [Act.put, List.setIfInBounds_toArray, List.set_cons_zero, List.set_cons_succ]
                      refine wpAnyH_take (i := 7) (oi := { dst := some 161, op := Op.move (Operand.tmp 160), type := 4, pos := "law.go:75", after := #[{ on := 6, ground := Ground.data }, { on := 4, ground := Ground.chain }], guard := none }) (v := ?_) rfl (by kernel_rfl) (by kernel_rfl) (by kernel_rfl) (fun _ _ _ h => h) (Or.inl ⟨by rfl, ?_⟩) hHeld ?_
                      rotate_left 1
                      · intro W hSw
                        (try dsimp only at hSw)
                        go_simp
                        try with_reducible rfl
                      try simp only [Act.put, List.setIfInBounds_toArray, List.set_cons_zero, List.set_cons_succ]
                      refine wpAnyH_take (i := 8) (oi := { dst := some 162, op := Op.move (Operand.tmp 13), type := 29, pos := "law.go:75", after := #[{ on := 7, ground := Ground.guard }], guard := some (7, false) }) (v := ?_) rfl (by kernel_rfl) (by kernel_rfl) (by kernel_rfl) (fun _ _ _ h => h) (Or.inl ⟨by rfl, ?_⟩) hHeld ?_
                      rotate_left 1
                      · intro W hSw
                        (try dsimp only at hSw)
                        go_simp
                        try with_reducible rfl
                      try simp only [Act.put, List.setIfInBounds_toArray, List.set_cons_zero, List.set_cons_succ]
                      refine wpAnyH_take (i := 10) (oi := { dst := some 164, op := Op.move (Operand.tmp 16), type := 34, pos := "law.go:75", after := #[{ on := 7, ground := Ground.guard }], guard := some (7, false) }) (v := ?_) rfl (by kernel_rfl) (by kernel_rfl) (by kernel_rfl) (fun _ _ _ h => h) (Or.inl ⟨by rfl, ?_⟩) hHeld ?_
                      rotate_left 1
                      · intro W hSw
                        (try dsimp only at hSw)
                        go_simp
                        try with_reducible rfl
                      try simp only [Act.put, List.setIfInBounds_toArray, List.set_cons_zero, List.set_cons_succ]
                      refine wpAnyH_ready (rs := [9]) (by kernel_rfl) (by simp) ?_
                      refine AllReadyH.cons (o := { dst := some 163, op := Op.call { callee := Callee.value (Operand.func 24), args := #[Operand.tmp 162], argTypes := #[29] }, type := 2, pos := "law.go:75", after := #[{ on := 8, ground := Ground.data }, { on := 7, ground := Ground.chain }, { on := 7, ground := Ground.guard }], guard := some (7, false) }) rfl (fun KC hK => ?_) ?_
                      · go_simp
                        refine (HNx.out _ HBz.out).mono ?_
                        rintro e wz2 ⟨rfl, rfl⟩
                        refine hK.out _ _ (HS2.out _ HBz.out) (fun hHeld => ?_)
                        clear hK KC
                        try simp only [Act.put, List.setIfInBounds_toArray, List.set_cons_zero, List.set_cons_succ]
                        refine wpAnyH_ready (rs := [11]) (by kernel_rfl) (by simp) ?_
                        refine AllReadyH.cons (o := { dst := some 165, op := Op.call { callee := Callee.value (Operand.func 25), args := #[Operand.tmp 164], argTypes := #[34] }, type := 2, pos := "law.go:75", after := #[{ on := 10, ground := Ground.data }, { on := 9, ground := Ground.chain }, { on := 7, ground := Ground.guard }], guard := some (7, false) }) rfl (fun KC hK => ?_) ?_
                        · go_simp
                          refine (HrNx.out _ HBz.out).mono ?_
                          rintro e wz2 ⟨rfl, rfl⟩
                          refine hK.out _ _ (HS2.out _ HBz.out) (fun hHeld => ?_)
                          clear hK KC
                          try simp only [Act.put, List.setIfInBounds_toArray, List.set_cons_zero, List.set_cons_succ]
                          refine wpAnyH_take (i := 12) (oi := { dst := some 166, op := Op.binOp BinOp.neq 2 (Operand.tmp 163) (Operand.tmp 165) 2, type := 4, pos := "law.go:75", after := #[{ on := 9, ground := Ground.data }, { on := 11, ground := Ground.data }, { on := 7, ground := Ground.guard }], guard := some (7, false) }) (v := ?_) rfl (by kernel_rfl) (by kernel_rfl) (by kernel_rfl) (fun _ _ _ h => h) (Or.inl ⟨by rfl, ?_⟩) hHeld ?_
                          rotate_left 1
                          · intro W hSw
                            (try dsimp only at hSw)
                            go_simp
                            try with_reducible rfl
                          try simp only [Act.put, List.setIfInBounds_toArray, List.set_cons_zero, List.set_cons_succ]
                          refine wpAnyH_take (i := 13) (oi := { dst := some 167, op := Op.pick (Operand.tmp 161) (Operand.const (Value.bool true)) (Operand.tmp 166), type := 4, pos := "law.go:75", after := #[{ on := 7, ground := Ground.data }, { on := 12, ground := Ground.data }], guard := none }) (v := ?_) rfl (by kernel_rfl) (by kernel_rfl) (by kernel_rfl) (fun _ _ _ h => h) (Or.inl ⟨by rfl, ?_⟩) hHeld ?_
                          rotate_left 1
                          · intro W hSw
                            (try dsimp only at hSw)
                            go_simp
                            try with_reducible rfl
                          try simp only [Act.put, List.setIfInBounds_toArray, List.set_cons_zero, List.set_cons_succ]
                          refine wpAnyH_take (i := 14) (oi := { dst := some 168, op := Op.move (Operand.tmp 167), type := 4, pos := "law.go:75", after := #[{ on := 13, ground := Ground.data }, { on := 11, ground := Ground.chain }], guard := none }) (v := ?_) rfl (by kernel_rfl) (by kernel_rfl) (by kernel_rfl) (fun _ _ _ h => h) (Or.inl ⟨by rfl, ?_⟩) hHeld ?_
                          rotate_left 1
                          · intro W hSw
                            (try dsimp only at hSw)
                            go_simp
                            try with_reducible rfl
                          try simp only [Act.put, List.setIfInBounds_toArray, List.set_cons_zero, List.set_cons_succ]
                          refine wpAnyH_take (i := 15) (oi := { dst := some 169, op := Op.move (Operand.tmp 13), type := 29, pos := "law.go:75", after := #[{ on := 14, ground := Ground.guard }], guard := some (14, false) }) (v := ?_) rfl (by kernel_rfl) (by kernel_rfl) (by kernel_rfl) (fun _ _ _ h => h) (Or.inl ⟨by rfl, ?_⟩) hHeld ?_
                          rotate_left 1
                          · intro W hSw
                            (try dsimp only at hSw)
                            go_simp
                            try with_reducible rfl
                          try simp only [Act.put, List.setIfInBounds_toArray, List.set_cons_zero, List.set_cons_succ]
                          refine wpAnyH_take (i := 17) (oi := { dst := some 171, op := Op.move (Operand.tmp 16), type := 34, pos := "law.go:75", after := #[{ on := 14, ground := Ground.guard }], guard := some (14, false) }) (v := ?_) rfl (by kernel_rfl) (by kernel_rfl) (by kernel_rfl) (fun _ _ _ h => h) (Or.inl ⟨by rfl, ?_⟩) hHeld ?_
                          rotate_left 1
                          · intro W hSw
                            (try dsimp only at hSw)
                            go_simp
                            try with_reducible rfl
                          try simp only [Act.put, List.setIfInBounds_toArray, List.set_cons_zero, List.set_cons_succ]
                          refine wpAnyH_ready (rs := [16]) (by kernel_rfl) (by simp) ?_
                          refine AllReadyH.cons (o := { dst := some 170, op := Op.call { callee := Callee.value (Operand.func 26), args := #[Operand.tmp 169], argTypes := #[29] }, type := 3, pos := "law.go:75", after := #[{ on := 15, ground := Ground.data }, { on := 14, ground := Ground.chain }, { on := 14, ground := Ground.guard }], guard := some (14, false) }) rfl (fun KC hK => ?_) ?_
                          · go_simp
                            refine (HRm.out _ HBz.out).mono ?_
                            rintro e wz2 ⟨rfl, nq, rfl⟩
                            have HBz := Lib.hid (HBz.out.drewN' nq)
                            refine hK.out _ _ (HS2.out _ HBz.out) (fun hHeld => ?_)
                            clear hK KC
                            try simp only [Act.put, List.setIfInBounds_toArray, List.set_cons_zero, List.set_cons_succ]
                            refine wpAnyH_ready (rs := [18]) (by kernel_rfl) (by simp) ?_
                            refine AllReadyH.cons (o := { dst := some 172, op := Op.call { callee := Callee.value (Operand.func 27), args := #[Operand.tmp 171], argTypes := #[34] }, type := 3, pos := "law.go:75", after := #[{ on := 17, ground := Ground.data }, { on := 16, ground := Ground.chain }, { on := 14, ground := Ground.guard }], guard := some (14, false) }) rfl (fun KC hK => ?_) ?_
                            · go_simp
                              refine (HrRm.out _ HBz.out).mono ?_
                              rintro e wz2 ⟨rfl, nq, rfl⟩
                              have HBz := Lib.hid (HBz.out.drewN' nq)
                              refine hK.out _ _ (HS2.out _ HBz.out) (fun hHeld => ?_)
                              clear hK KC
                              try simp only [Act.put, List.setIfInBounds_toArray, List.set_cons_zero, List.set_cons_succ]
                              refine wpAnyH_take (i := 19) (oi := { dst := some 173, op := Op.binOp BinOp.neq 3 (Operand.tmp 170) (Operand.tmp 172) 3, type := 4, pos := "law.go:75", after := #[{ on := 16, ground := Ground.data }, { on := 18, ground := Ground.data }, { on := 14, ground := Ground.guard }], guard := some (14, false) }) (v := ?_) rfl (by kernel_rfl) (by kernel_rfl) (by kernel_rfl) (fun _ _ _ h => h) (Or.inl ⟨by rfl, ?_⟩) hHeld ?_
                              rotate_left 1
                              · intro W hSw
                                (try dsimp only at hSw)
                                go_simp
                                try with_reducible rfl
                              try simp only [Act.put, List.setIfInBounds_toArray, List.set_cons_zero, List.set_cons_succ]
                              refine wpAnyH_take (i := 20) (oi := { dst := some 174, op := Op.pick (Operand.tmp 168) (Operand.const (Value.bool true)) (Operand.tmp 173), type := 4, pos := "law.go:75", after := #[{ on := 14, ground := Ground.data }, { on := 19, ground := Ground.data }], guard := none }) (v := ?_) rfl (by kernel_rfl) (by kernel_rfl) (by kernel_rfl) (fun _ _ _ h => h) (Or.inl ⟨by rfl, ?_⟩) hHeld ?_
                              rotate_left 1
                              · intro W hSw
                                (try dsimp only at hSw)
                                go_simp
                                try with_reducible rfl
                              try simp only [Act.put, List.setIfInBounds_toArray, List.set_cons_zero, List.set_cons_succ]
                              refine wpAnyH_take (i := 21) (oi := { dst := some 175, op := Op.move (Operand.tmp 174), type := 4, pos := "law.go:75", after := #[{ on := 20, ground := Ground.data }, { on := 18, ground := Ground.chain }], guard := none }) (v := ?_) rfl (by kernel_rfl) (by kernel_rfl) (by kernel_rfl) (fun _ _ _ h => h) (Or.inl ⟨by rfl, ?_⟩) hHeld ?_
                              rotate_left 1
                              · intro W hSw
                                (try dsimp only at hSw)
                                go_simp
                                try with_reducible rfl
                              try simp only [Act.put, List.setIfInBounds_toArray, List.set_cons_zero, List.set_cons_succ]
                              refine wpAnyH_take (i := 22) (oi := { dst := some 176, op := Op.fieldAddr 40 (Operand.tmp 20) 2, type := 0, pos := "law.go:75", after := #[{ on := 21, ground := Ground.guard }], guard := some (21, false) }) (v := ?_) rfl (by kernel_rfl) (by kernel_rfl) (by kernel_rfl) (fun _ _ _ h => h) (Or.inl ⟨by rfl, ?_⟩) hHeld ?_
                              rotate_left 1
                              · intro W hSw
                                (try dsimp only at hSw)
                                go_simp
                                try with_reducible rfl
                              try simp only [Act.put, List.setIfInBounds_toArray, List.set_cons_zero, List.set_cons_succ]
                              refine wpAnyH_take (i := 23) (oi := { dst := some 177, op := Op.load 3 (Operand.tmp 176), type := 3, pos := "law.go:75", after := #[{ on := 22, ground := Ground.data }, { on := 21, ground := Ground.guard }], guard := some (21, false) }) (v := ?_) rfl (by kernel_rfl) (by kernel_rfl) (by kernel_rfl) (fun _ _ _ h => h) (Or.inl ⟨by rfl, ?_⟩) hHeld ?_
                              rotate_left 1
                              · intro W hSw
                                (try dsimp only at hSw)
                                go_simp
                                try with_reducible rfl
                              try simp only [Act.put, List.setIfInBounds_toArray, List.set_cons_zero, List.set_cons_succ]
                              refine wpAnyH_take (i := 25) (oi := { dst := some 179, op := Op.fieldAddr 40 (Operand.tmp 20) 2, type := 0, pos := "law.go:75", after := #[{ on := 21, ground := Ground.guard }], guard := some (21, false) }) (v := ?_) rfl (by kernel_rfl) (by kernel_rfl) (by kernel_rfl) (fun _ _ _ h => h) (Or.inl ⟨by rfl, ?_⟩) hHeld ?_
                              rotate_left 1
                              · intro W hSw
                                (try dsimp only at hSw)
                                go_simp
                                try with_reducible rfl
                              try simp only [Act.put, List.setIfInBounds_toArray, List.set_cons_zero, List.set_cons_succ]
                              refine wpAnyH_take (i := 26) (oi := { dst := some 180, op := Op.load 3 (Operand.tmp 179), type := 3, pos := "law.go:75", after := #[{ on := 25, ground := Ground.data }, { on := 21, ground := Ground.guard }], guard := some (21, false) }) (v := ?_) rfl (by kernel_rfl) (by kernel_rfl) (by kernel_rfl) (fun _ _ _ h => h) (Or.inl ⟨by rfl, ?_⟩) hHeld ?_
                              rotate_left 1
                              · intro W hSw
                                (try dsimp only at hSw)
                                go_simp
                                try with_reducible rfl
                              try simp only [Act.put, List.setIfInBounds_toArray, List.set_cons_zero, List.set_cons_succ]
                              refine wpAnyH_ready (rs := [24]) (by kernel_rfl) (by simp) ?_
                              refine AllReadyH.cons (o := { dst := some 178, op := Op.call { callee := Callee.value (Operand.func 28), args := #[Operand.tmp 177], argTypes := #[3] }, type := 3, pos := "law.go:75", after := #[{ on := 23, ground := Ground.data }, { on := 21, ground := Ground.chain }, { on := 21, ground := Ground.guard }], guard := some (21, false) }) rfl (fun KC hK => ?_) ?_
                              · have HBz := Lib.hid (below_drew2 HBz.out)
                                go_simp
                                refine (HNd.out _).mono ?_
                                rintro e wz2 ⟨rfl, rfl⟩
                                refine hK.out _ _ (HS2.out _ HBz.out) (fun hHeld => ?_)
                                clear hK KC
                                try simp only [Act.put, List.setIfInBounds_toArray, List.set_cons_zero, List.set_cons_succ]
                                refine wpAnyH_ready (rs := [27]) (by kernel_rfl) (by simp) ?_
                                refine AllReadyH.cons (o := { dst := some 181, op := Op.call { callee := Callee.value (Operand.func 29), args := #[Operand.tmp 180], argTypes := #[3] }, type := 3, pos := "law.go:75", after := #[{ on := 26, ground := Ground.data }, { on := 24, ground := Ground.chain }, { on := 21, ground := Ground.guard }], guard := some (21, false) }) rfl (fun KC hK => ?_) ?_
                                · go_simp
                                  refine (HrNd.out _).mono ?_
                                  rintro e wz2 ⟨rfl, rfl⟩
                                  refine hK.out _ _ (HS2.out _ HBz.out) (fun hHeld => ?_)
                                  clear hK KC
                                  try simp only [Act.put, List.setIfInBounds_toArray, List.set_cons_zero, List.set_cons_succ]
                                  refine wpAnyH_take (i := 28) (oi := { dst := some 182, op := Op.binOp BinOp.neq 3 (Operand.tmp 178) (Operand.tmp 181) 3, type := 4, pos := "law.go:75", after := #[{ on := 24, ground := Ground.data }, { on := 27, ground := Ground.data }, { on := 21, ground := Ground.guard }], guard := some (21, false) }) (v := ?_) rfl (by kernel_rfl) (by kernel_rfl) (by kernel_rfl) (fun _ _ _ h => h) (Or.inl ⟨by rfl, ?_⟩) hHeld ?_
                                  rotate_left 1
                                  · intro W hSw
                                    (try dsimp only at hSw)
                                    go_simp
                                    try with_reducible rfl
                                  try simp only [Act.put, List.setIfInBounds_toArray, List.set_cons_zero, List.set_cons_succ]
                                  refine wpAnyH_take (i := 29) (oi := { dst := some 183, op := Op.pick (Operand.tmp 175) (Operand.const (Value.bool true)) (Operand.tmp 182), type := 4, pos := "law.go:75", after := #[{ on := 21, ground := Ground.data }, { on := 28, ground := Ground.data }], guard := none }) (v := ?_) rfl (by kernel_rfl) (by kernel_rfl) (by kernel_rfl) (fun _ _ _ h => h) (Or.inl ⟨by rfl, ?_⟩) hHeld ?_
                                  rotate_left 1
                                  · intro W hSw
                                    (try dsimp only at hSw)
                                    go_simp
                                    try with_reducible rfl
                                  try simp only [Act.put, List.setIfInBounds_toArray, List.set_cons_zero, List.set_cons_succ]
                                  refine wpAnyH_done (by kernel_rfl) ?_ _
                                  clear hHeld
                                  go_wp2_with fail
                                  go_roundw
                                  case rel => exact ⟨q + 1, J2, K2, by omega, by go_num, rfl, rfl, HPz.out _ HBz.out⟩
                                  case measure => simp [intOf]; omega
                                exact AllReadyH.nil
                              exact AllReadyH.nil
                            exact AllReadyH.nil
                          exact AllReadyH.nil
                        exact AllReadyH.nil
                      exact AllReadyH.nil
                    exact AllReadyH.nil
                  refine AllReadyH.cons (o := { dst := some 159, op := Op.convert 22 9 (Operand.tmp 158), type := 9, pos := "law.go:75", after := #[{ on := 4, ground := Ground.data }], guard := none }) rfl (fun KC hK => ?_) ?_
                  · have hc2 := conv_sl HSb.out
                    rw [HStr.out] at hc2
                    go_simp
                    clear hc2
                    refine hK.out _ _ (HS2.out _ HBz.out) (fun hHeld => ?_)
                    clear hK KC
                    try simp only [Act.put, List.setIfInBounds_toArray, List.set_cons_zero, List.set_cons_succ]
                    refine wpAnyH_ready (rs := [2]) (by kernel_rfl) (by simp) ?_
                    refine AllReadyH.cons (o := { dst := some 156, op := Op.convert 22 9 (Operand.tmp 155), type := 9, pos := "law.go:75", after := #[{ on := 1, ground := Ground.data }], guard := none }) rfl (fun KC hK => ?_) ?_
                    · have hc1 := conv_sl HSa.out
                      rw [HStr.out] at hc1
                      go_simp
                      clear hc1
                      refine hK.out _ _ (HS2.out _ HBz.out) (fun hHeld => ?_)
                      clear hK KC
                      try simp only [Act.put, List.setIfInBounds_toArray, List.set_cons_zero, List.set_cons_succ]
                      refine wpAnyH_take (i := 6) (oi := { dst := some 160, op := Op.binOp BinOp.neq 9 (Operand.tmp 156) (Operand.tmp 159) 9, type := 4, pos := "law.go:75", after := #[{ on := 2, ground := Ground.data }, { on := 5, ground := Ground.data }], guard := none }) (v := ?_) rfl (by kernel_rfl) (by kernel_rfl) (by kernel_rfl) (fun _ _ _ h => h) (Or.inl ⟨by rfl, ?_⟩) hHeld ?_
                      rotate_left 1
                      · intro W hSw
                        (try dsimp only at hSw)
                        go_simp
                        try with_reducible rfl
                      try simp only [Act.put, List.setIfInBounds_toArray, List.set_cons_zero, List.set_cons_succ]
                      refine wpAnyH_take (i := 7) (oi := { dst := some 161, op := Op.move (Operand.tmp 160), type := 4, pos := "law.go:75", after := #[{ on := 6, ground := Ground.data }, { on := 4, ground := Ground.chain }], guard := none }) (v := ?_) rfl (by kernel_rfl) (by kernel_rfl) (by kernel_rfl) (fun _ _ _ h => h) (Or.inl ⟨by rfl, ?_⟩) hHeld ?_
                      rotate_left 1
                      · intro W hSw
                        (try dsimp only at hSw)
                        go_simp
                        try with_reducible rfl
                      try simp only [Act.put, List.setIfInBounds_toArray, List.set_cons_zero, List.set_cons_succ]
                      refine wpAnyH_take (i := 8) (oi := { dst := some 162, op := Op.move (Operand.tmp 13), type := 29, pos := "law.go:75", after := #[{ on := 7, ground := Ground.guard }], guard := some (7, false) }) (v := ?_) rfl (by kernel_rfl) (by kernel_rfl) (by kernel_rfl) (fun _ _ _ h => h) (Or.inl ⟨by rfl, ?_⟩) hHeld ?_
                      rotate_left 1
                      · intro W hSw
                        (try dsimp only at hSw)
                        go_simp
                        try with_reducible rfl
                      try simp only [Act.put, List.setIfInBounds_toArray, List.set_cons_zero, List.set_cons_succ]
                      refine wpAnyH_take (i := 10) (oi := { dst := some 164, op := Op.move (Operand.tmp 16), type := 34, pos := "law.go:75", after := #[{ on := 7, ground := Ground.guard }], guard := some (7, false) }) (v := ?_) rfl (by kernel_rfl) (by kernel_rfl) (by kernel_rfl) (fun _ _ _ h => h) (Or.inl ⟨by rfl, ?_⟩) hHeld ?_
                      rotate_left 1
                      · intro W hSw
                        (try dsimp only at hSw)
                        go_simp
                        try with_reducible rfl
                      try simp only [Act.put, List.setIfInBounds_toArray, List.set_cons_zero, List.set_cons_succ]
                      refine wpAnyH_ready (rs := [9]) (by kernel_rfl) (by simp) ?_
                      refine AllReadyH.cons (o := { dst := some 163, op := Op.call { callee := Callee.value (Operand.func 24), args := #[Operand.tmp 162], argTypes := #[29] }, type := 2, pos := "law.go:75", after := #[{ on := 8, ground := Ground.data }, { on := 7, ground := Ground.chain }, { on := 7, ground := Ground.guard }], guard := some (7, false) }) rfl (fun KC hK => ?_) ?_
                      · go_simp
                        refine (HNx.out _ HBz.out).mono ?_
                        rintro e wz2 ⟨rfl, rfl⟩
                        refine hK.out _ _ (HS2.out _ HBz.out) (fun hHeld => ?_)
                        clear hK KC
                        try simp only [Act.put, List.setIfInBounds_toArray, List.set_cons_zero, List.set_cons_succ]
                        refine wpAnyH_ready (rs := [11]) (by kernel_rfl) (by simp) ?_
                        refine AllReadyH.cons (o := { dst := some 165, op := Op.call { callee := Callee.value (Operand.func 25), args := #[Operand.tmp 164], argTypes := #[34] }, type := 2, pos := "law.go:75", after := #[{ on := 10, ground := Ground.data }, { on := 9, ground := Ground.chain }, { on := 7, ground := Ground.guard }], guard := some (7, false) }) rfl (fun KC hK => ?_) ?_
                        · go_simp
                          refine (HrNx.out _ HBz.out).mono ?_
                          rintro e wz2 ⟨rfl, rfl⟩
                          refine hK.out _ _ (HS2.out _ HBz.out) (fun hHeld => ?_)
                          clear hK KC
                          try simp only [Act.put, List.setIfInBounds_toArray, List.set_cons_zero, List.set_cons_succ]
                          refine wpAnyH_take (i := 12) (oi := { dst := some 166, op := Op.binOp BinOp.neq 2 (Operand.tmp 163) (Operand.tmp 165) 2, type := 4, pos := "law.go:75", after := #[{ on := 9, ground := Ground.data }, { on := 11, ground := Ground.data }, { on := 7, ground := Ground.guard }], guard := some (7, false) }) (v := ?_) rfl (by kernel_rfl) (by kernel_rfl) (by kernel_rfl) (fun _ _ _ h => h) (Or.inl ⟨by rfl, ?_⟩) hHeld ?_
                          rotate_left 1
                          · intro W hSw
                            (try dsimp only at hSw)
                            go_simp
                            try with_reducible rfl
                          try simp only [Act.put, List.setIfInBounds_toArray, List.set_cons_zero, List.set_cons_succ]
                          refine wpAnyH_take (i := 13) (oi := { dst := some 167, op := Op.pick (Operand.tmp 161) (Operand.const (Value.bool true)) (Operand.tmp 166), type := 4, pos := "law.go:75", after := #[{ on := 7, ground := Ground.data }, { on := 12, ground := Ground.data }], guard := none }) (v := ?_) rfl (by kernel_rfl) (by kernel_rfl) (by kernel_rfl) (fun _ _ _ h => h) (Or.inl ⟨by rfl, ?_⟩) hHeld ?_
                          rotate_left 1
                          · intro W hSw
                            (try dsimp only at hSw)
                            go_simp
                            try with_reducible rfl
                          try simp only [Act.put, List.setIfInBounds_toArray, List.set_cons_zero, List.set_cons_succ]
                          refine wpAnyH_take (i := 14) (oi := { dst := some 168, op := Op.move (Operand.tmp 167), type := 4, pos := "law.go:75", after := #[{ on := 13, ground := Ground.data }, { on := 11, ground := Ground.chain }], guard := none }) (v := ?_) rfl (by kernel_rfl) (by kernel_rfl) (by kernel_rfl) (fun _ _ _ h => h) (Or.inl ⟨by rfl, ?_⟩) hHeld ?_
                          rotate_left 1
                          · intro W hSw
                            (try dsimp only at hSw)
                            go_simp
                            try with_reducible rfl
                          try simp only [Act.put, List.setIfInBounds_toArray, List.set_cons_zero, List.set_cons_succ]
                          refine wpAnyH_take (i := 15) (oi := { dst := some 169, op := Op.move (Operand.tmp 13), type := 29, pos := "law.go:75", after := #[{ on := 14, ground := Ground.guard }], guard := some (14, false) }) (v := ?_) rfl (by kernel_rfl) (by kernel_rfl) (by kernel_rfl) (fun _ _ _ h => h) (Or.inl ⟨by rfl, ?_⟩) hHeld ?_
                          rotate_left 1
                          · intro W hSw
                            (try dsimp only at hSw)
                            go_simp
                            try with_reducible rfl
                          try simp only [Act.put, List.setIfInBounds_toArray, List.set_cons_zero, List.set_cons_succ]
                          refine wpAnyH_take (i := 17) (oi := { dst := some 171, op := Op.move (Operand.tmp 16), type := 34, pos := "law.go:75", after := #[{ on := 14, ground := Ground.guard }], guard := some (14, false) }) (v := ?_) rfl (by kernel_rfl) (by kernel_rfl) (by kernel_rfl) (fun _ _ _ h => h) (Or.inl ⟨by rfl, ?_⟩) hHeld ?_
                          rotate_left 1
                          · intro W hSw
                            (try dsimp only at hSw)
                            go_simp
                            try with_reducible rfl
                          try simp only [Act.put, List.setIfInBounds_toArray, List.set_cons_zero, List.set_cons_succ]
                          refine wpAnyH_ready (rs := [16]) (by kernel_rfl) (by simp) ?_
                          refine AllReadyH.cons (o := { dst := some 170, op := Op.call { callee := Callee.value (Operand.func 26), args := #[Operand.tmp 169], argTypes := #[29] }, type := 3, pos := "law.go:75", after := #[{ on := 15, ground := Ground.data }, { on := 14, ground := Ground.chain }, { on := 14, ground := Ground.guard }], guard := some (14, false) }) rfl (fun KC hK => ?_) ?_
                          · go_simp
                            refine (HRm.out _ HBz.out).mono ?_
                            rintro e wz2 ⟨rfl, nq, rfl⟩
                            have HBz := Lib.hid (HBz.out.drewN' nq)
                            refine hK.out _ _ (HS2.out _ HBz.out) (fun hHeld => ?_)
                            clear hK KC
                            try simp only [Act.put, List.setIfInBounds_toArray, List.set_cons_zero, List.set_cons_succ]
                            refine wpAnyH_ready (rs := [18]) (by kernel_rfl) (by simp) ?_
                            refine AllReadyH.cons (o := { dst := some 172, op := Op.call { callee := Callee.value (Operand.func 27), args := #[Operand.tmp 171], argTypes := #[34] }, type := 3, pos := "law.go:75", after := #[{ on := 17, ground := Ground.data }, { on := 16, ground := Ground.chain }, { on := 14, ground := Ground.guard }], guard := some (14, false) }) rfl (fun KC hK => ?_) ?_
                            · go_simp
                              refine (HrRm.out _ HBz.out).mono ?_
                              rintro e wz2 ⟨rfl, nq, rfl⟩
                              have HBz := Lib.hid (HBz.out.drewN' nq)
                              refine hK.out _ _ (HS2.out _ HBz.out) (fun hHeld => ?_)
                              clear hK KC
                              try simp only [Act.put, List.setIfInBounds_toArray, List.set_cons_zero, List.set_cons_succ]
                              refine wpAnyH_take (i := 19) (oi := { dst := some 173, op := Op.binOp BinOp.neq 3 (Operand.tmp 170) (Operand.tmp 172) 3, type := 4, pos := "law.go:75", after := #[{ on := 16, ground := Ground.data }, { on := 18, ground := Ground.data }, { on := 14, ground := Ground.guard }], guard := some (14, false) }) (v := ?_) rfl (by kernel_rfl) (by kernel_rfl) (by kernel_rfl) (fun _ _ _ h => h) (Or.inl ⟨by rfl, ?_⟩) hHeld ?_
                              rotate_left 1
                              · intro W hSw
                                (try dsimp only at hSw)
                                go_simp
                                try with_reducible rfl
                              try simp only [Act.put, List.setIfInBounds_toArray, List.set_cons_zero, List.set_cons_succ]
                              refine wpAnyH_take (i := 20) (oi := { dst := some 174, op := Op.pick (Operand.tmp 168) (Operand.const (Value.bool true)) (Operand.tmp 173), type := 4, pos := "law.go:75", after := #[{ on := 14, ground := Ground.data }, { on := 19, ground := Ground.data }], guard := none }) (v := ?_) rfl (by kernel_rfl) (by kernel_rfl) (by kernel_rfl) (fun _ _ _ h => h) (Or.inl ⟨by rfl, ?_⟩) hHeld ?_
                              rotate_left 1
                              · intro W hSw
                                (try dsimp only at hSw)
                                go_simp
                                try with_reducible rfl
                              try simp only [Act.put, List.setIfInBounds_toArray, List.set_cons_zero, List.set_cons_succ]
                              refine wpAnyH_take (i := 21) (oi := { dst := some 175, op := Op.move (Operand.tmp 174), type := 4, pos := "law.go:75", after := #[{ on := 20, ground := Ground.data }, { on := 18, ground := Ground.chain }], guard := none }) (v := ?_) rfl (by kernel_rfl) (by kernel_rfl) (by kernel_rfl) (fun _ _ _ h => h) (Or.inl ⟨by rfl, ?_⟩) hHeld ?_
                              rotate_left 1
                              · intro W hSw
                                (try dsimp only at hSw)
                                go_simp
                                try with_reducible rfl
                              try simp only [Act.put, List.setIfInBounds_toArray, List.set_cons_zero, List.set_cons_succ]
                              refine wpAnyH_take (i := 22) (oi := { dst := some 176, op := Op.fieldAddr 40 (Operand.tmp 20) 2, type := 0, pos := "law.go:75", after := #[{ on := 21, ground := Ground.guard }], guard := some (21, false) }) (v := ?_) rfl (by kernel_rfl) (by kernel_rfl) (by kernel_rfl) (fun _ _ _ h => h) (Or.inl ⟨by rfl, ?_⟩) hHeld ?_
                              rotate_left 1
                              · intro W hSw
                                (try dsimp only at hSw)
                                go_simp
                                try with_reducible rfl
                              try simp only [Act.put, List.setIfInBounds_toArray, List.set_cons_zero, List.set_cons_succ]
                              refine wpAnyH_take (i := 23) (oi := { dst := some 177, op := Op.load 3 (Operand.tmp 176), type := 3, pos := "law.go:75", after := #[{ on := 22, ground := Ground.data }, { on := 21, ground := Ground.guard }], guard := some (21, false) }) (v := ?_) rfl (by kernel_rfl) (by kernel_rfl) (by kernel_rfl) (fun _ _ _ h => h) (Or.inl ⟨by rfl, ?_⟩) hHeld ?_
                              rotate_left 1
                              · intro W hSw
                                (try dsimp only at hSw)
                                go_simp
                                try with_reducible rfl
                              try simp only [Act.put, List.setIfInBounds_toArray, List.set_cons_zero, List.set_cons_succ]
                              refine wpAnyH_take (i := 25) (oi := { dst := some 179, op := Op.fieldAddr 40 (Operand.tmp 20) 2, type := 0, pos := "law.go:75", after := #[{ on := 21, ground := Ground.guard }], guard := some (21, false) }) (v := ?_) rfl (by kernel_rfl) (by kernel_rfl) (by kernel_rfl) (fun _ _ _ h => h) (Or.inl ⟨by rfl, ?_⟩) hHeld ?_
                              rotate_left 1
                              · intro W hSw
                                (try dsimp only at hSw)
                                go_simp
                                try with_reducible rfl
                              try simp only [Act.put, List.setIfInBounds_toArray, List.set_cons_zero, List.set_cons_succ]
                              refine wpAnyH_take (i := 26) (oi := { dst := some 180, op := Op.load 3 (Operand.tmp 179), type := 3, pos := "law.go:75", after := #[{ on := 25, ground := Ground.data }, { on := 21, ground := Ground.guard }], guard := some (21, false) }) (v := ?_) rfl (by kernel_rfl) (by kernel_rfl) (by kernel_rfl) (fun _ _ _ h => h) (Or.inl ⟨by rfl, ?_⟩) hHeld ?_
                              rotate_left 1
                              · intro W hSw
                                (try dsimp only at hSw)
                                go_simp
                                try with_reducible rfl
                              try simp only [Act.put, List.setIfInBounds_toArray, List.set_cons_zero, List.set_cons_succ]
                              refine wpAnyH_ready (rs := [24]) (by kernel_rfl) (by simp) ?_
                              refine AllReadyH.cons (o := { dst := some 178, op := Op.call { callee := Callee.value (Operand.func 28), args := #[Operand.tmp 177], argTypes := #[3] }, type := 3, pos := "law.go:75", after := #[{ on := 23, ground := Ground.data }, { on := 21, ground := Ground.chain }, { on := 21, ground := Ground.guard }], guard := some (21, false) }) rfl (fun KC hK => ?_) ?_
                              · have HBz := Lib.hid (below_drew2 HBz.out)
                                go_simp
                                refine (HNd.out _).mono ?_
                                rintro e wz2 ⟨rfl, rfl⟩
                                refine hK.out _ _ (HS2.out _ HBz.out) (fun hHeld => ?_)
                                clear hK KC
                                try simp only [Act.put, List.setIfInBounds_toArray, List.set_cons_zero, List.set_cons_succ]
                                refine wpAnyH_ready (rs := [27]) (by kernel_rfl) (by simp) ?_
                                refine AllReadyH.cons (o := { dst := some 181, op := Op.call { callee := Callee.value (Operand.func 29), args := #[Operand.tmp 180], argTypes := #[3] }, type := 3, pos := "law.go:75", after := #[{ on := 26, ground := Ground.data }, { on := 24, ground := Ground.chain }, { on := 21, ground := Ground.guard }], guard := some (21, false) }) rfl (fun KC hK => ?_) ?_
                                · go_simp
                                  refine (HrNd.out _).mono ?_
                                  rintro e wz2 ⟨rfl, rfl⟩
                                  refine hK.out _ _ (HS2.out _ HBz.out) (fun hHeld => ?_)
                                  clear hK KC
                                  try simp only [Act.put, List.setIfInBounds_toArray, List.set_cons_zero, List.set_cons_succ]
                                  refine wpAnyH_take (i := 28) (oi := { dst := some 182, op := Op.binOp BinOp.neq 3 (Operand.tmp 178) (Operand.tmp 181) 3, type := 4, pos := "law.go:75", after := #[{ on := 24, ground := Ground.data }, { on := 27, ground := Ground.data }, { on := 21, ground := Ground.guard }], guard := some (21, false) }) (v := ?_) rfl (by kernel_rfl) (by kernel_rfl) (by kernel_rfl) (fun _ _ _ h => h) (Or.inl ⟨by rfl, ?_⟩) hHeld ?_
                                  rotate_left 1
                                  · intro W hSw
                                    (try dsimp only at hSw)
                                    go_simp
                                    try with_reducible rfl
                                  try simp only [Act.put, List.setIfInBounds_toArray, List.set_cons_zero, List.set_cons_succ]
                                  refine wpAnyH_take (i := 29) (oi := { dst := some 183, op := Op.pick (Operand.tmp 175) (Operand.const (Value.bool true)) (Operand.tmp 182), type := 4, pos := "law.go:75", after := #[{ on := 21, ground := Ground.data }, { on := 28, ground := Ground.data }], guard := none }) (v := ?_) rfl (by kernel_rfl) (by kernel_rfl) (by kernel_rfl) (fun _ _ _ h => h) (Or.inl ⟨by rfl, ?_⟩) hHeld ?_
                                  rotate_left 1
                                  · intro W hSw
                                    (try dsimp only at hSw)
                                    go_simp
                                    try with_reducible rfl
                                  try simp only [Act.put, List.setIfInBounds_toArray, List.set_cons_zero, List.set_cons_succ]
                                  refine wpAnyH_done (by kernel_rfl) ?_ _
                                  clear hHeld
                                  go_wp2_with fail
                                  go_roundw
                                  case rel => exact ⟨q + 1, J2, K2, by omega, by go_num, rfl, rfl, HPz.out _ HBz.out⟩
                                  case measure => simp [intOf]; omega
                                exact AllReadyH.nil
                              exact AllReadyH.nil
                            exact AllReadyH.nil
                          exact AllReadyH.nil
                        exact AllReadyH.nil
                      exact AllReadyH.nil
                    exact AllReadyH.nil
                  exact AllReadyH.nil
                exact AllReadyH.nil
              exact AllReadyH.nil
              --P32E
          · obtain rfl : q = n0 := by omega
            have HBe := Lib.hid HP.out.both.below
            clear HP
            go_wp2_with fail
            refine (HW.out wr HBe.out).mono ?_
            rintro e w4 ⟨rfl, hb4⟩
            have HB4 := Lib.hid (HBe.out.trans (hb4.mono HBe.out.size))
            clear hb4
            go_wp2
            go_ret
            exact ⟨rfl, HB4.out⟩
  · generalize ns.length = L at h64 HL0 ⊢
    have H64 := Lib.hid h64
    clear h64
    go_enter Tryd.func3, Tryd.ntmps3
    go_wp2_with fail
    refine (Load_form w av L cv H64.out).mono ?_
    rintro e w' ⟨rfl, rfl⟩
    go_wp2_with fail
    refine (rLoad_form w av L cv H64.out).mono ?_
    rintro e w' ⟨rfl, rfl⟩
    go_wp2_with fail
    refine (HW.out w (Below.refl _ _)).mono ?_
    rintro e w4 ⟨rfl, hb4⟩
    have HB4 := Lib.hid hb4
    clear hb4
    go_wp2
    go_ret
    exact ⟨rfl, HB4.out⟩

end Go.Proofs.YtkhghkklekjdaaaDoor.journal
