/- The law SectorLoads: a device of some bytes has them, and goes on as the document's does: for all bytes and all acts the law returns true and leaves its arguments as they were. Conditions: none. -/
import Derived.Test.YtmipjhbbbpcdlaaRows
import Derived.Test.YtmipjhbbbpcdlaaSectorRLoad
import Derived.Test.YtmipjhbbbpcdlaaSectorLawP
namespace Go.Proofs.Ytmipjhbbbpcdlaa.sector
open Go.ChangeShapes Go.WideShapes Go.ChangeAt Go.RowKit
open Go.Proofs.Ytmipjhbbbpcdlaa.kit Go.Proofs.Ytmipjhbbbpcdlaa.own Go.Proofs.Ytmipjhbbbpcdlaa.lift
set_option linter.unusedVariables false
set_option linter.unusedSimpArgs false

theorem both_load {w0 w1 w2 : World} {d r n : Nat} {ns : List Nat} (hd : DevAt w1 (Fresh w0 w1) d (loaded n ns)) (hb1 : Below w0.heap.size w0 w1) (hr : RAt w2 (Fresh w1 w2) r (loaded n ns)) (hb2 : Below w1.heap.size w1 w2) (hn : 1 ≤ n) : Both w0 w2 d r (loaded n ns) (Fresh w0 w1) (Fresh w1 w2) := by
  have hs := hb1.size
  refine ⟨hd.keep hb2, hr, fun k hk hy => ?_, fun k hk => hk.elim False.elim (·.1), fun k hk => hk.elim False.elim (fun h => by omega), hb1.trans (hb2.mono hs), fun p hp => (by simp [loaded, fresh] at hp), hn⟩
  rcases hk with hk | hk
  · exact hk
  · rcases hy with hy | hy
    · exact hy
    · omega
theorem own_capL {w : World} {B e size n : Nat} {v : Value} {xs : List Value} (h : w.ownsRow B e size v n xs) : ∀ a l c, v = .slice a l c → l ≤ c := by
  intro a l c hv
  rcases h.2 with ⟨rfl, h0⟩ | ⟨g, cap, cur, rfl, _, _, hle, _⟩
  · cases hv; exact Nat.le_refl _
  · cases hv; exact hle

set_option maxHeartbeats 8000000 in
set_option maxRecDepth 100000 in
theorem walkLoads (w : World) (v : Value) (ns : List Nat) (va : Value) (n : Nat) (A : Nat → ActV) (hb : Byt w v ns) (h47 : ns.length ≤ 140737488351232) (hv : Acts w va n A) :
    Calls Try.prog 4 #[v, va] w fun e w' => e = .returned (.bool true) ∧ Below w.heap.size w w' := by
  obtain ⟨hl0, av, cv, rfl, hcv⟩ := id hb.read
  obtain ⟨hn, a, cap, rfl, hc⟩ := id hv.shape
  have HV := Lib.hid hb; have HA := Lib.hid hv; have H47 := Lib.hid h47; have HL0 := Lib.hid hl0
  have HW := Lib.hid awake_any
  clear hb hv h47 hcv hc hl0
  go_enter Try.func4, Try.ntmps4
  have HB1 := Lib.hid ((Below.refl w.heap.size w).alloc (Nat.le_refl _) (.cells #[] 5))
  go_wp2_with (at_builtin; refine appS rfl (.tmp 11) (.tmp 12) 28 rfl w.heap.size 5 .u8 1 Try.underlying28 infoByte _ [] rfl (own_empty w _ _) _ ns rfl (HV.out.read.keep HB1.out) HV.out.none ?_ ?_ HB1.out.size ?_)
  case refine_1 => have := H47.out; simp [maxLen]; omega
  case refine_2 => have := H47.out; simp; omega
  case refine_3 =>
    intro v3 w3 ho3 hk3
    replace ho3 : OwnI w3 w.heap.size 5 .u8 v3 ns := ho3
    have HB3 := Lib.hid (HB1.out.trans hk3.toBelow)
    have HO3 := Lib.hid ho3.read
    have HC3 := Lib.hid (own_capL ho3)
    clear ho3 hk3 HB1
    by_cases h64 : ns.length % 64 = 0
    · obtain ⟨k, hk⟩ : ∃ k, ns.length = 64 * k := ⟨ns.length / 64, by omega⟩
      by_cases hbad : k < 1 ∨ 4096 < k
      · obtain ⟨_, a3, c3, rfl, _⟩ := id HO3.out
        generalize ns.length = L at hk HL0 ⊢
        have HKk := Lib.hid hk; have HBad := Lib.hid hbad
        clear hk hbad h64
        go_wp2_with fail
        refine (Load_count w3 a3 L c3 k HL0.out HKk.out HBad.out).mono ?_
        rintro e w' ⟨rfl, rfl⟩
        go_wp2_with fail
        refine (rLoad_count w3 av L cv k HL0.out HKk.out HBad.out).mono ?_
        rintro e w' ⟨rfl, rfl⟩
        go_wp2_with fail
        refine (HW.out w3).mono ?_
        rintro e w4 ⟨rfl, hb4⟩
        have HB4 := Lib.hid (HB3.out.trans (hb4.mono HB3.out.size))
        clear hb4
        go_wp2
        go_ret
        exact ⟨rfl, HB4.out⟩
      · have HKk := Lib.hid hk
        have HLk := Lib.hid hk
        have hk1 : 1 ≤ k := by omega
        have hk2 : k ≤ 4096 := by omega
        have HVr := Lib.hid HV.out.read
        have HVl := Lib.hid HV.out.lt
        have HAc := Lib.hid (HA.out.keep HB3.out)
        obtain ⟨_, a2, cap2, e2, hc2⟩ := HAc.out.shape
        cases e2
        have HC := Lib.hid hc2
        clear hk hbad h64 hc2 HA
        generalize ns.length = L at HKk HL0 H47 HVr HV ⊢
        go_wp2_with fail
        refine (Load_ok w3 v3 ns k HO3.out HVl.out HC3.out HLk.out hk1 hk2).mono ?_
        rintro e w4 ⟨d, rfl, hd4, hb4⟩
        have HD4 := Lib.hid hd4; have HB4 := Lib.hid hb4
        clear hd4 hb4
        go_wp2_with fail
        refine (rLoad_ok w4 _ ns k (HVr.out.keep (HB3.out.trans (HB4.out.mono HB3.out.size))) HVl.out HLk.out hk1 hk2).mono ?_
        rintro e w5 ⟨r, rfl, hr5, hb5⟩
        have HS0 := Lib.hid (show PlayAt w3 w5 d r 0 from ⟨_, _, _, both_load HD4.out HB4.out hr5 hb5 hk1, Nat.le_refl _, Nat.le_refl _⟩)
        clear hr5 hb5 HD4 HB4
        go_wp2_with fail
        go_loopw [34] (fun vi wr => ∃ q : Nat, q ≤ n ∧ vi = .int .i64 q ∧ PlayAt w3 wr d r q) (fun i _ => n - (intOf i).toNat)
        case atStart => exact ⟨0, by omega, rfl, HS0.out⟩
        case round =>
          obtain ⟨q, hq, rfl, hs⟩ := hrel
          obtain ⟨m, Z, Y, hB, hws, hfs⟩ := hs
          have HB := Lib.hid hB
          clear HS0
          by_cases hqn : q < n
          · have hqI : (q : Int) < (n : Int) := by omega
            have hq0 : (0 : Int) ≤ (q : Int) := by omega
            obtain ⟨b, off, rfl, hcell⟩ := HC.out (by omega)
            have hr := hcell q hqn
            have hok := HAc.out.each q hqn
            generalize A q = act at hr hok
            obtain ⟨kind, nn, vv, data, pick⟩ := act
            obtain ⟨hnn, hby, hp⟩ := hok
            simp only [ActV.cells] at hr
            have HR := Lib.hid (show wr.rangeAt b (off + q * 4) [.int .i64 kind, .int .i64 nn, vv, .int .u64 (pick : Nat)] from fun i v hv => (HB.out.below.cell (p := ⟨b, off + q * 4 + i, none⟩) (cell_lt (hr i v hv))).trans (hr i v hv))
            obtain ⟨t1, t2, t3⟩ := act_var wr kind nn vv pick
            have HT1 := Lib.hid t1; have HT2 := Lib.hid t2; have HT3 := Lib.hid t3
            have hone : ∀ v ∈ ([.int .i64 kind, .int .i64 nn, vv, .int .u64 (pick : Nat)] : List Value), v.oneCell' = true := by
              obtain ⟨_, x, c, e, _⟩ := hby.read
              intro v hv
              simp at hv
              rcases hv with rfl | rfl | rfl | rfl
              · rfl
              · rfl
              · simp only at e; rw [e]; rfl
              · rfl
            have HOn := Lib.hid (all_oneCell_toArray hone)
            have HDo := Lib.hid (do_any w3 _ d r m Z Y (HB.out.keep t3) kind nn vv data pick hnn.2 ((hby.keep HB.out.below).keep t3) hby.old hp (by omega) (by omega))
            clear hr hnn hby hp t1 t2 t3 hone hB hcell
            go_upto_region 8 with (first
              | refine wpList_load_mid rfl 31 (.tmp 36) rfl b (off + q * 4) rfl _ _ HR.out Try.underlying31 rfl infoAct ?_
              | refine wpList_store_mid rfl 31 (.tmp 9) (.tmp 37) rfl wr.heap.size 0 _ rfl rfl HT1.out infoAct HOn.out ?_)
            clear HR HT1 HOn
            generalize (World.setCells _ wr.heap.size 0 _) = W1 at HT2 HT3 HDo ⊢
            go_wp2_with (refine wpList_load_mid rfl 31 (.tmp 9) rfl wr.heap.size 0 rfl _ _ HT2.out Try.underlying31 rfl infoAct ?_)
            refine HDo.out.mono ?_
            rintro e w6 ⟨rfl, m', Z', Y', hB', hw', hf'⟩
            have HP := Lib.hid (show PlayAt w3 w6 d r (q + 1) from ⟨m', Z', Y', hB', by omega, by omega⟩)
            clear hB' HDo HT2 HT3 HB
            go_wp2
            go_roundw
            case rel => exact ⟨q + 1, by omega, by go_num, HP.out⟩
            case measure => simp [intOf]; omega
          · obtain rfl : q = n := by omega
            have hqI : ¬ (q : Int) < (q : Int) := by omega
            clear hB
            go_wp2_with fail
            refine (same_any w3 wr d r m Z Y HB.out).mono ?_
            rintro e w6 ⟨rfl, hb6⟩
            have HB6 := Lib.hid (HB.out.keep hb6)
            clear hb6 HB
            have hc1 := conv_sl (HO3.out.keep HB6.out.below)
            have hc2 := conv_sl (HVr.out.keep (HB3.out.trans (HB6.out.below.mono HB3.out.size)))
            obtain ⟨s, hs⟩ : ∃ s, strN ns = s := ⟨_, rfl⟩
            rw [hs] at hc1 hc2
            clear hs
            go_wp2_with fail
            clear hc1 hc2
            have hok := HB6.out.dev.1
            have HOk := Lib.hid hok
            have HPos := Lib.hid HB6.out.pos
            clear hok
            refine (Image_any w6 Z d m HB6.out.dev).mono ?_
            rintro e w7 ⟨⟨v7, rfl, ho7⟩, hb7⟩
            have HB7 := Lib.hid (HB6.out.keep hb7)
            have HO7 := Lib.hid ho7
            clear ho7 hb7 HB6
            go_wp2_with fail
            refine (Load_ok w7 v7 m.laid m.n HO7.out.read HOk.out.laidLt (own_capL HO7.out) HOk.out.laid HPos.out HOk.out.n).mono ?_
            rintro e w8 ⟨d2, rfl, hd8, hb8⟩
            have HD8 := Lib.hid hd8; have HB8 := Lib.hid (HB7.out.keep hb8)
            clear hd8 hb8 HB7 HO7
            go_upto_region 14 with fail
            have HB8b := Lib.hid (HB8.out.keep (show Below w8.heap.size w8 w8.drew from ⟨rfl, rfl, rfl, Nat.le_refl _, fun _ _ => rfl⟩))
            have HI4 := Lib.hid (show Calls Try.prog 15 #[.pointer (some ⟨d2, 0, none⟩)] w8.drew (Makes w8.drew 5 .u8 m.laid) from Image_any w8.drew _ d2 (loaded m.n m.laid) (HD8.out.keep (show Below w8.heap.size w8 w8.drew from ⟨rfl, rfl, rfl, Nat.le_refl _, fun _ _ => rfl⟩)))
            clear HB8 HD8
            obtain ⟨s2, hs2⟩ : ∃ x, strN m.laid = x := ⟨_, rfl⟩
            have HSs := Lib.hid hs2
            clear hs2
            refine wp_region_any (by kernel_rfl) ?_
            change wpAny _ _ _ _ _ _ _ (World.drew _)
            refine wpAny_take (i := 0) (oi := { dst := some 58, op := Op.move (Operand.tmp 10), type := 23, pos := "law.go:92", after := #[], guard := none }) (v := ?_) rfl (by kernel_rfl) (by kernel_rfl) (by kernel_rfl) (fun _ _ _ h => h) (Or.inl ⟨by rfl, ?_⟩) ?_
            rotate_left 1
            · intro W
              go_simp
              try with_reducible rfl
              skip
            try simp only [Act.put, List.setIfInBounds_toArray, List.set_cons_zero, List.set_cons_succ]
            refine wpAny_take (i := 1) (oi := { dst := some 59, op := Op.binOp BinOp.neq 23 (Operand.tmp 58) (Operand.const (Value.pointer none)) 23, type := 4, pos := "law.go:92", after := #[{ on := 0, ground := Ground.data }], guard := none }) (v := ?_) rfl (by kernel_rfl) (by kernel_rfl) (by kernel_rfl) (fun _ _ _ h => h) (Or.inl ⟨by rfl, ?_⟩) ?_
            rotate_left 1
            · intro W
              go_simp
              try with_reducible rfl
              skip
            try simp only [Act.put, List.setIfInBounds_toArray, List.set_cons_zero, List.set_cons_succ]
            refine wpAny_take (i := 2) (oi := { dst := some 60, op := Op.move (Operand.tmp 59), type := 4, pos := "law.go:92", after := #[{ on := 1, ground := Ground.data }], guard := none }) (v := ?_) rfl (by kernel_rfl) (by kernel_rfl) (by kernel_rfl) (fun _ _ _ h => h) (Or.inl ⟨by rfl, ?_⟩) ?_
            rotate_left 1
            · intro W
              go_simp
              try with_reducible rfl
              skip
            try simp only [Act.put, List.setIfInBounds_toArray, List.set_cons_zero, List.set_cons_succ]
            refine wpAny_take (i := 3) (oi := { dst := some 61, op := Op.move (Operand.tmp 10), type := 23, pos := "law.go:92", after := #[{ on := 2, ground := Ground.guard }], guard := some (2, true) }) (v := ?_) rfl (by kernel_rfl) (by kernel_rfl) (by kernel_rfl) (fun _ _ _ h => h) (Or.inl ⟨by rfl, ?_⟩) ?_
            rotate_left 1
            · intro W
              go_simp
              try with_reducible rfl
              skip
            try simp only [Act.put, List.setIfInBounds_toArray, List.set_cons_zero, List.set_cons_succ]
            refine wpAny_take (i := 6) (oi := { dst := some 64, op := Op.move (Operand.tmp 6), type := 23, pos := "law.go:92", after := #[{ on := 2, ground := Ground.guard }], guard := some (2, true) }) (v := ?_) rfl (by kernel_rfl) (by kernel_rfl) (by kernel_rfl) (fun _ _ _ h => h) (Or.inl ⟨by rfl, ?_⟩) ?_
            rotate_left 1
            · intro W
              go_simp
              try with_reducible rfl
              skip
            try simp only [Act.put, List.setIfInBounds_toArray, List.set_cons_zero, List.set_cons_succ]
            refine wpAny_ready (rs := [4]) (by kernel_rfl) (by simp) ?_
            refine AllReady.cons (o := { dst := some 62, op := Op.call { callee := Callee.value (Operand.func 15), args := #[Operand.tmp 61], argTypes := #[23] }, type := 28, pos := "law.go:92", after := #[{ on := 3, ground := Ground.data }, { on := 2, ground := Ground.chain }, { on := 2, ground := Ground.guard }], guard := some (2, true) }) rfl (fun K hK => ?_) ?_
            · go_simp
              go_wp2_with (go_at_call 15; refine HI4.out.mono ?_; rintro e w9 ⟨⟨v9, rfl, ho9⟩, hb9⟩; obtain ⟨x9, y9, rfl⟩ := own_any ho9; have HB9 := Lib.hid (HB8b.out.keep hb9); have HO9 := Lib.hid ho9.read; have hc9 := conv_sl ho9.read; rw [HSs.out] at hc9; have HI7 := Lib.hid (Image_any w9 Z d m HB9.out.dev); clear ho9 hb9)
              try clear hK K
              try simp only [Act.put, List.setIfInBounds_toArray, List.set_cons_zero, List.set_cons_succ]
              refine wpAny_ready (rs := [5, 7]) (by kernel_rfl) (by simp) ?_
              refine AllReady.cons (o := { dst := some 63, op := Op.convert 28 9 (Operand.tmp 62), type := 9, pos := "law.go:92", after := #[{ on := 4, ground := Ground.data }, { on := 2, ground := Ground.guard }], guard := some (2, true) }) rfl (fun K hK => ?_) ?_
              · go_simp
                refine hK _ _ ?_
                try clear hK K
                try simp only [Act.put, List.setIfInBounds_toArray, List.set_cons_zero, List.set_cons_succ]
                refine wpAny_ready (rs := [7]) (by kernel_rfl) (by simp) ?_
                refine AllReady.cons (o := { dst := some 65, op := Op.call { callee := Callee.value (Operand.func 15), args := #[Operand.tmp 64], argTypes := #[23] }, type := 28, pos := "law.go:92", after := #[{ on := 6, ground := Ground.data }, { on := 4, ground := Ground.chain }, { on := 2, ground := Ground.guard }], guard := some (2, true) }) rfl (fun K hK => ?_) ?_
                · go_simp
                  go_wp2_with (go_at_call 15; refine HI7.out.mono ?_; rintro e w10 ⟨⟨v10, rfl, ho10⟩, hb10⟩; obtain ⟨x10, y10, rfl⟩ := own_any ho10; have HB10 := Lib.hid (HB9.out.keep hb10); have hc9b := conv_sl (HO9.out.keep hb10); rw [HSs.out] at hc9b; have hc10 := conv_sl ho10.read; rw [HSs.out] at hc10; clear ho10 hb10)
                  try clear hK K
                  try simp only [Act.put, List.setIfInBounds_toArray, List.set_cons_zero, List.set_cons_succ]
                  refine wpAny_ready (rs := [8]) (by kernel_rfl) (by simp) ?_
                  refine AllReady.cons (o := { dst := some 66, op := Op.convert 28 9 (Operand.tmp 65), type := 9, pos := "law.go:92", after := #[{ on := 7, ground := Ground.data }, { on := 2, ground := Ground.guard }], guard := some (2, true) }) rfl (fun K hK => ?_) ?_
                  · go_simp
                    refine hK _ _ ?_
                    try clear hK K
                    try simp only [Act.put, List.setIfInBounds_toArray, List.set_cons_zero, List.set_cons_succ]
                    refine wpAny_take (i := 9) (oi := { dst := some 67, op := Op.binOp BinOp.eql 9 (Operand.tmp 63) (Operand.tmp 66) 9, type := 4, pos := "law.go:92", after := #[{ on := 5, ground := Ground.data }, { on := 8, ground := Ground.data }, { on := 2, ground := Ground.guard }], guard := some (2, true) }) (v := ?_) rfl (by kernel_rfl) (by kernel_rfl) (by kernel_rfl) (fun _ _ _ h => h) (Or.inl ⟨by rfl, ?_⟩) ?_
                    rotate_left 1
                    · intro W
                      go_simp
                      try with_reducible rfl
                      skip
                    try simp only [Act.put, List.setIfInBounds_toArray, List.set_cons_zero, List.set_cons_succ]
                    refine wpAny_take (i := 10) (oi := { dst := some 68, op := Op.pick (Operand.tmp 60) (Operand.tmp 67) (Operand.const (Value.bool false)), type := 4, pos := "law.go:92", after := #[{ on := 2, ground := Ground.data }, { on := 9, ground := Ground.data }], guard := none }) (v := ?_) rfl (by kernel_rfl) (by kernel_rfl) (by kernel_rfl) (fun _ _ _ h => h) (Or.inl ⟨by rfl, ?_⟩) ?_
                    rotate_left 1
                    · intro W
                      go_simp
                      try with_reducible rfl
                      skip
                    try simp only [Act.put, List.setIfInBounds_toArray, List.set_cons_zero, List.set_cons_succ]
                    refine wpAny_take (i := 11) (oi := { dst := some 69, op := Op.move (Operand.tmp 68), type := 4, pos := "law.go:92", after := #[{ on := 10, ground := Ground.data }, { on := 7, ground := Ground.chain }], guard := none }) (v := ?_) rfl (by kernel_rfl) (by kernel_rfl) (by kernel_rfl) (fun _ _ _ h => h) (Or.inl ⟨by rfl, ?_⟩) ?_
                    rotate_left 1
                    · intro W
                      go_simp
                      try with_reducible rfl
                      skip
                    try simp only [Act.put, List.setIfInBounds_toArray, List.set_cons_zero, List.set_cons_succ]
                    refine wpAny_ready (rs := [12]) (by kernel_rfl) (by simp) ?_
                    refine AllReady.cons (o := { dst := some 70, op := Op.call { callee := Callee.value (Operand.func 10), args := #[], argTypes := #[] }, type := 4, pos := "law.go:92", after := #[{ on := 11, ground := Ground.chain }, { on := 11, ground := Ground.guard }], guard := some (11, true) }) rfl (fun K hK => ?_) ?_
                    · clear hc9 hc9b hc10
                      go_simp
                      go_wp2_with (go_at_call 10; refine (HW.out w10).mono ?_; rintro e w11 ⟨rfl, hb11⟩; have HB11 := Lib.hid (HB10.out.below.trans (hb11.mono HB10.out.below.size)); clear hb11)
                      try clear hK K
                      try simp only [Act.put, List.setIfInBounds_toArray, List.set_cons_zero, List.set_cons_succ]
                      refine wpAny_take (i := 13) (oi := { dst := some 71, op := Op.pick (Operand.tmp 69) (Operand.tmp 70) (Operand.const (Value.bool false)), type := 4, pos := "law.go:92", after := #[{ on := 11, ground := Ground.data }, { on := 12, ground := Ground.data }], guard := none }) (v := ?_) rfl (by kernel_rfl) (by kernel_rfl) (by kernel_rfl) (fun _ _ _ h => h) (Or.inl ⟨by rfl, ?_⟩) ?_
                      rotate_left 1
                      · intro W
                        go_simp
                        try with_reducible rfl
                        skip
                      try simp only [Act.put, List.setIfInBounds_toArray, List.set_cons_zero, List.set_cons_succ]
                      refine wpAny_take (i := 14) (oi := { dst := some 4, op := Op.assign (Operand.tmp 71), type := 4, pos := "law.go:92", after := #[{ on := 13, ground := Ground.data }, { on := 12, ground := Ground.chain }, { on := 0, ground := Ground.phase }, { on := 1, ground := Ground.phase }, { on := 2, ground := Ground.phase }, { on := 3, ground := Ground.phase }, { on := 4, ground := Ground.phase }, { on := 5, ground := Ground.phase }, { on := 6, ground := Ground.phase }, { on := 7, ground := Ground.phase }, { on := 8, ground := Ground.phase }, { on := 9, ground := Ground.phase }, { on := 10, ground := Ground.phase }, { on := 11, ground := Ground.phase }, { on := 12, ground := Ground.phase }, { on := 13, ground := Ground.phase }], guard := none }) (v := ?_) rfl (by kernel_rfl) (by kernel_rfl) (by kernel_rfl) (fun _ _ _ h => h) (Or.inl ⟨by rfl, ?_⟩) ?_
                      rotate_left 1
                      · intro W
                        go_simp
                        try with_reducible rfl
                        skip
                      try simp only [Act.put, List.setIfInBounds_toArray, List.set_cons_zero, List.set_cons_succ]
                      refine wpAny_done (by kernel_rfl) ?_ _
                      go_wp2
                      go_ret
                      exact ⟨rfl, HB3.out.trans (HB11.out.mono HB3.out.size)⟩
                    exact AllReady.nil
                  exact AllReady.nil
                exact AllReady.nil
              refine AllReady.cons (o := { dst := some 65, op := Op.call { callee := Callee.value (Operand.func 15), args := #[Operand.tmp 64], argTypes := #[23] }, type := 28, pos := "law.go:92", after := #[{ on := 6, ground := Ground.data }, { on := 4, ground := Ground.chain }, { on := 2, ground := Ground.guard }], guard := some (2, true) }) rfl (fun K hK => ?_) ?_
              · go_simp
                go_wp2_with (go_at_call 15; refine HI7.out.mono ?_; rintro e w10 ⟨⟨v10, rfl, ho10⟩, hb10⟩; obtain ⟨x10, y10, rfl⟩ := own_any ho10; have HB10 := Lib.hid (HB9.out.keep hb10); have hc9b := conv_sl (HO9.out.keep hb10); rw [HSs.out] at hc9b; have hc10 := conv_sl ho10.read; rw [HSs.out] at hc10; clear ho10 hb10)
                try clear hK K
                try simp only [Act.put, List.setIfInBounds_toArray, List.set_cons_zero, List.set_cons_succ]
                refine wpAny_ready (rs := [5, 8]) (by kernel_rfl) (by simp) ?_
                refine AllReady.cons (o := { dst := some 63, op := Op.convert 28 9 (Operand.tmp 62), type := 9, pos := "law.go:92", after := #[{ on := 4, ground := Ground.data }, { on := 2, ground := Ground.guard }], guard := some (2, true) }) rfl (fun K hK => ?_) ?_
                · go_simp
                  refine hK _ _ ?_
                  try clear hK K
                  try simp only [Act.put, List.setIfInBounds_toArray, List.set_cons_zero, List.set_cons_succ]
                  refine wpAny_ready (rs := [8]) (by kernel_rfl) (by simp) ?_
                  refine AllReady.cons (o := { dst := some 66, op := Op.convert 28 9 (Operand.tmp 65), type := 9, pos := "law.go:92", after := #[{ on := 7, ground := Ground.data }, { on := 2, ground := Ground.guard }], guard := some (2, true) }) rfl (fun K hK => ?_) ?_
                  · go_simp
                    refine hK _ _ ?_
                    try clear hK K
                    try simp only [Act.put, List.setIfInBounds_toArray, List.set_cons_zero, List.set_cons_succ]
                    refine wpAny_take (i := 9) (oi := { dst := some 67, op := Op.binOp BinOp.eql 9 (Operand.tmp 63) (Operand.tmp 66) 9, type := 4, pos := "law.go:92", after := #[{ on := 5, ground := Ground.data }, { on := 8, ground := Ground.data }, { on := 2, ground := Ground.guard }], guard := some (2, true) }) (v := ?_) rfl (by kernel_rfl) (by kernel_rfl) (by kernel_rfl) (fun _ _ _ h => h) (Or.inl ⟨by rfl, ?_⟩) ?_
                    rotate_left 1
                    · intro W
                      go_simp
                      try with_reducible rfl
                      skip
                    try simp only [Act.put, List.setIfInBounds_toArray, List.set_cons_zero, List.set_cons_succ]
                    refine wpAny_take (i := 10) (oi := { dst := some 68, op := Op.pick (Operand.tmp 60) (Operand.tmp 67) (Operand.const (Value.bool false)), type := 4, pos := "law.go:92", after := #[{ on := 2, ground := Ground.data }, { on := 9, ground := Ground.data }], guard := none }) (v := ?_) rfl (by kernel_rfl) (by kernel_rfl) (by kernel_rfl) (fun _ _ _ h => h) (Or.inl ⟨by rfl, ?_⟩) ?_
                    rotate_left 1
                    · intro W
                      go_simp
                      try with_reducible rfl
                      skip
                    try simp only [Act.put, List.setIfInBounds_toArray, List.set_cons_zero, List.set_cons_succ]
                    refine wpAny_take (i := 11) (oi := { dst := some 69, op := Op.move (Operand.tmp 68), type := 4, pos := "law.go:92", after := #[{ on := 10, ground := Ground.data }, { on := 7, ground := Ground.chain }], guard := none }) (v := ?_) rfl (by kernel_rfl) (by kernel_rfl) (by kernel_rfl) (fun _ _ _ h => h) (Or.inl ⟨by rfl, ?_⟩) ?_
                    rotate_left 1
                    · intro W
                      go_simp
                      try with_reducible rfl
                      skip
                    try simp only [Act.put, List.setIfInBounds_toArray, List.set_cons_zero, List.set_cons_succ]
                    refine wpAny_ready (rs := [12]) (by kernel_rfl) (by simp) ?_
                    refine AllReady.cons (o := { dst := some 70, op := Op.call { callee := Callee.value (Operand.func 10), args := #[], argTypes := #[] }, type := 4, pos := "law.go:92", after := #[{ on := 11, ground := Ground.chain }, { on := 11, ground := Ground.guard }], guard := some (11, true) }) rfl (fun K hK => ?_) ?_
                    · clear hc9 hc9b hc10
                      go_simp
                      go_wp2_with (go_at_call 10; refine (HW.out w10).mono ?_; rintro e w11 ⟨rfl, hb11⟩; have HB11 := Lib.hid (HB10.out.below.trans (hb11.mono HB10.out.below.size)); clear hb11)
                      try clear hK K
                      try simp only [Act.put, List.setIfInBounds_toArray, List.set_cons_zero, List.set_cons_succ]
                      refine wpAny_take (i := 13) (oi := { dst := some 71, op := Op.pick (Operand.tmp 69) (Operand.tmp 70) (Operand.const (Value.bool false)), type := 4, pos := "law.go:92", after := #[{ on := 11, ground := Ground.data }, { on := 12, ground := Ground.data }], guard := none }) (v := ?_) rfl (by kernel_rfl) (by kernel_rfl) (by kernel_rfl) (fun _ _ _ h => h) (Or.inl ⟨by rfl, ?_⟩) ?_
                      rotate_left 1
                      · intro W
                        go_simp
                        try with_reducible rfl
                        skip
                      try simp only [Act.put, List.setIfInBounds_toArray, List.set_cons_zero, List.set_cons_succ]
                      refine wpAny_take (i := 14) (oi := { dst := some 4, op := Op.assign (Operand.tmp 71), type := 4, pos := "law.go:92", after := #[{ on := 13, ground := Ground.data }, { on := 12, ground := Ground.chain }, { on := 0, ground := Ground.phase }, { on := 1, ground := Ground.phase }, { on := 2, ground := Ground.phase }, { on := 3, ground := Ground.phase }, { on := 4, ground := Ground.phase }, { on := 5, ground := Ground.phase }, { on := 6, ground := Ground.phase }, { on := 7, ground := Ground.phase }, { on := 8, ground := Ground.phase }, { on := 9, ground := Ground.phase }, { on := 10, ground := Ground.phase }, { on := 11, ground := Ground.phase }, { on := 12, ground := Ground.phase }, { on := 13, ground := Ground.phase }], guard := none }) (v := ?_) rfl (by kernel_rfl) (by kernel_rfl) (by kernel_rfl) (fun _ _ _ h => h) (Or.inl ⟨by rfl, ?_⟩) ?_
                      rotate_left 1
                      · intro W
                        go_simp
                        try with_reducible rfl
                        skip
                      try simp only [Act.put, List.setIfInBounds_toArray, List.set_cons_zero, List.set_cons_succ]
                      refine wpAny_done (by kernel_rfl) ?_ _
                      go_wp2
                      go_ret
                      exact ⟨rfl, HB3.out.trans (HB11.out.mono HB3.out.size)⟩
                    exact AllReady.nil
                  exact AllReady.nil
                refine AllReady.cons (o := { dst := some 66, op := Op.convert 28 9 (Operand.tmp 65), type := 9, pos := "law.go:92", after := #[{ on := 7, ground := Ground.data }, { on := 2, ground := Ground.guard }], guard := some (2, true) }) rfl (fun K hK => ?_) ?_
                · go_simp
                  refine hK _ _ ?_
                  try clear hK K
                  try simp only [Act.put, List.setIfInBounds_toArray, List.set_cons_zero, List.set_cons_succ]
                  refine wpAny_ready (rs := [5]) (by kernel_rfl) (by simp) ?_
                  refine AllReady.cons (o := { dst := some 63, op := Op.convert 28 9 (Operand.tmp 62), type := 9, pos := "law.go:92", after := #[{ on := 4, ground := Ground.data }, { on := 2, ground := Ground.guard }], guard := some (2, true) }) rfl (fun K hK => ?_) ?_
                  · go_simp
                    refine hK _ _ ?_
                    try clear hK K
                    try simp only [Act.put, List.setIfInBounds_toArray, List.set_cons_zero, List.set_cons_succ]
                    refine wpAny_take (i := 9) (oi := { dst := some 67, op := Op.binOp BinOp.eql 9 (Operand.tmp 63) (Operand.tmp 66) 9, type := 4, pos := "law.go:92", after := #[{ on := 5, ground := Ground.data }, { on := 8, ground := Ground.data }, { on := 2, ground := Ground.guard }], guard := some (2, true) }) (v := ?_) rfl (by kernel_rfl) (by kernel_rfl) (by kernel_rfl) (fun _ _ _ h => h) (Or.inl ⟨by rfl, ?_⟩) ?_
                    rotate_left 1
                    · intro W
                      go_simp
                      try with_reducible rfl
                      skip
                    try simp only [Act.put, List.setIfInBounds_toArray, List.set_cons_zero, List.set_cons_succ]
                    refine wpAny_take (i := 10) (oi := { dst := some 68, op := Op.pick (Operand.tmp 60) (Operand.tmp 67) (Operand.const (Value.bool false)), type := 4, pos := "law.go:92", after := #[{ on := 2, ground := Ground.data }, { on := 9, ground := Ground.data }], guard := none }) (v := ?_) rfl (by kernel_rfl) (by kernel_rfl) (by kernel_rfl) (fun _ _ _ h => h) (Or.inl ⟨by rfl, ?_⟩) ?_
                    rotate_left 1
                    · intro W
                      go_simp
                      try with_reducible rfl
                      skip
                    try simp only [Act.put, List.setIfInBounds_toArray, List.set_cons_zero, List.set_cons_succ]
                    refine wpAny_take (i := 11) (oi := { dst := some 69, op := Op.move (Operand.tmp 68), type := 4, pos := "law.go:92", after := #[{ on := 10, ground := Ground.data }, { on := 7, ground := Ground.chain }], guard := none }) (v := ?_) rfl (by kernel_rfl) (by kernel_rfl) (by kernel_rfl) (fun _ _ _ h => h) (Or.inl ⟨by rfl, ?_⟩) ?_
                    rotate_left 1
                    · intro W
                      go_simp
                      try with_reducible rfl
                      skip
                    try simp only [Act.put, List.setIfInBounds_toArray, List.set_cons_zero, List.set_cons_succ]
                    refine wpAny_ready (rs := [12]) (by kernel_rfl) (by simp) ?_
                    refine AllReady.cons (o := { dst := some 70, op := Op.call { callee := Callee.value (Operand.func 10), args := #[], argTypes := #[] }, type := 4, pos := "law.go:92", after := #[{ on := 11, ground := Ground.chain }, { on := 11, ground := Ground.guard }], guard := some (11, true) }) rfl (fun K hK => ?_) ?_
                    · clear hc9 hc9b hc10
                      go_simp
                      go_wp2_with (go_at_call 10; refine (HW.out w10).mono ?_; rintro e w11 ⟨rfl, hb11⟩; have HB11 := Lib.hid (HB10.out.below.trans (hb11.mono HB10.out.below.size)); clear hb11)
                      try clear hK K
                      try simp only [Act.put, List.setIfInBounds_toArray, List.set_cons_zero, List.set_cons_succ]
                      refine wpAny_take (i := 13) (oi := { dst := some 71, op := Op.pick (Operand.tmp 69) (Operand.tmp 70) (Operand.const (Value.bool false)), type := 4, pos := "law.go:92", after := #[{ on := 11, ground := Ground.data }, { on := 12, ground := Ground.data }], guard := none }) (v := ?_) rfl (by kernel_rfl) (by kernel_rfl) (by kernel_rfl) (fun _ _ _ h => h) (Or.inl ⟨by rfl, ?_⟩) ?_
                      rotate_left 1
                      · intro W
                        go_simp
                        try with_reducible rfl
                        skip
                      try simp only [Act.put, List.setIfInBounds_toArray, List.set_cons_zero, List.set_cons_succ]
                      refine wpAny_take (i := 14) (oi := { dst := some 4, op := Op.assign (Operand.tmp 71), type := 4, pos := "law.go:92", after := #[{ on := 13, ground := Ground.data }, { on := 12, ground := Ground.chain }, { on := 0, ground := Ground.phase }, { on := 1, ground := Ground.phase }, { on := 2, ground := Ground.phase }, { on := 3, ground := Ground.phase }, { on := 4, ground := Ground.phase }, { on := 5, ground := Ground.phase }, { on := 6, ground := Ground.phase }, { on := 7, ground := Ground.phase }, { on := 8, ground := Ground.phase }, { on := 9, ground := Ground.phase }, { on := 10, ground := Ground.phase }, { on := 11, ground := Ground.phase }, { on := 12, ground := Ground.phase }, { on := 13, ground := Ground.phase }], guard := none }) (v := ?_) rfl (by kernel_rfl) (by kernel_rfl) (by kernel_rfl) (fun _ _ _ h => h) (Or.inl ⟨by rfl, ?_⟩) ?_
                      rotate_left 1
                      · intro W
                        go_simp
                        try with_reducible rfl
                        skip
                      try simp only [Act.put, List.setIfInBounds_toArray, List.set_cons_zero, List.set_cons_succ]
                      refine wpAny_done (by kernel_rfl) ?_ _
                      go_wp2
                      go_ret
                      exact ⟨rfl, HB3.out.trans (HB11.out.mono HB3.out.size)⟩
                    exact AllReady.nil
                  exact AllReady.nil
                exact AllReady.nil
              exact AllReady.nil
            exact AllReady.nil
    · obtain ⟨_, a3, c3, rfl, _⟩ := id HO3.out
      generalize ns.length = L at h64 HL0 ⊢
      have H64 := Lib.hid h64
      clear h64
      go_wp2_with fail
      refine (Load_form w3 a3 L c3 H64.out).mono ?_
      rintro e w' ⟨rfl, rfl⟩
      go_wp2_with fail
      refine (rLoad_form w3 av L cv H64.out).mono ?_
      rintro e w' ⟨rfl, rfl⟩
      go_wp2_with fail
      refine (HW.out w3).mono ?_
      rintro e w4 ⟨rfl, hb4⟩
      have HB4 := Lib.hid (HB3.out.trans (hb4.mono HB3.out.size))
      clear hb4
      go_wp2
      go_ret
      exact ⟨rfl, HB4.out⟩

theorem loads_bytes {H : Type} {enc : TypeId × Value → H} {W : World} {r : Reach} {base : Nat} {v : Value} {d : DataW H} {p : List MemPlace}
    (hval : Value.okWide Try.prog W r base 28 v) (h : DataW.Trod enc Try.prog W 0 (fun _ => true) true 28 v d p) (hz : ∀ n ∈ d.weights Try.prog 28, n ≤ reachBytes) :
    ∃ ns : List Nat, Byt W v ns ∧ ns.length ≤ 140737488351232 := by
  obtain ⟨a0, len, cap, rfl⟩ := okWide_slice Try.underlying28 hval
  obtain ⟨fuel, hf⟩ := h
  have h0 := fun n h => (u8_pos n h).1
  rcases open_ints Try.underlying28 Try.underlying5 cu8 hf with ⟨hcs, hx⟩ | ⟨a, len', cap', zs, hcs, _, hl, hm, hzl, hx, hcell, hwz⟩
  · simp [Value.cells] at hcs
    obtain ⟨rfl, rfl, rfl⟩ := hcs
    exact ⟨[], ⟨SlI.nil _ _, by simp, fun b off n c e => (by cases e), fun n c e => (by cases e; rfl)⟩, by simp⟩
  · simp [Value.cells] at hcs
    obtain ⟨rfl, rfl, rfl⟩ := hcs
    simp only [if_true] at hzl
    simp only [Prod.mk.injEq] at hx
    obtain ⟨rfl, rfl⟩ := hx
    have h3 : ((zs.take len).map Int.toNat).length = len := by simp; omega
    have h2 : (lits (H := H) .u8 (zs.take len)).length = len := by simp [lits]; omega
    refine ⟨(zs.take len).map Int.toNat, ⟨SlI.of_open hm hl hzl hcell hwz h0, ?_, ?_, fun n c e => (by cases e)⟩, ?_⟩
    · intro n hn
      obtain ⟨z, hz1, rfl⟩ := List.mem_map.1 hn
      have := u8_pos z (hwz z (List.mem_of_mem_take hz1))
      omega
    · intro b off n c e hp
      cases e
      have := cell?_lt (hcell 0 (by omega))
      simpa [Addr.add] using this
    · have h1 := hz (((lits (H := H) .u8 (zs.take len)).length + (lits (H := H) .u8 (zs.drop len)).length) * Try.prog.bytesOf 5) (by simp [DataW.weights, Try.underlying28])
      rw [show Try.prog.bytesOf 5 = 1 from by kernel_rfl, h2] at h1
      rw [h3]
      unfold reachBytes at h1
      omega

set_option maxRecDepth 100000 in
theorem liftedLoads (os : Os) (started : os.Started) (H : Type) (enc : TypeId × Value → H) :
    ReturnsInHanded {} Try.checked os 4 .any (Rows.sectorLoadsSpec.pre6 enc Try.prog Try.f4 Rows.sectorLoadsRow.domain false) (Rows.sectorLoadsSpec.post enc Try.prog Try.f4 false true false false) := by
  refine lift.law (C := Try.checked) own started (by kernel_rfl) Try.func4
    (ChangeSpec.witness6 (enc := enc) (C := Try.checked) false ⟨#[], #[.slice none 0 0, .slice none 0 0], []⟩ 8 (by kernel_rfl) (by kernel_rfl) (by kernel_rfl) (by kernel_rfl)) laidOut (by kernel_rfl) 4 Try.underlying4 (by kernel_rfl) rfl ?_ ?_
  · intro ds hd
    match ds, hd with
    | [_, _], _ => rfl
  · intro W base args ds ps hg
    have hA : DataW.TrodAll enc Try.prog W 0 (fun _ => true) true Try.f4.params.toList args.toList ds ps := hg.read
    have hval : ∀ (j : Nat) t v, Try.f4.params[j]? = some t → args[j]? = some v → Value.okWide Try.prog W .any base t v := hg.ok
    have hz : (DataW.weightsEach Try.prog Try.f4.params.toList ds).all (· ≤ reachBytes) = true := hg.sized
    rw [Try.params4] at hA hval hz
    obtain ⟨v0, vs0, d0, ds0, p0, q0, hargs, rfl, rfl, h0, r0⟩ := trodAll_cons hA
    obtain ⟨v1, vs1, d1, ds1, p1, q1, rfl, rfl, rfl, h1, r1⟩ := trodAll_cons r0
    obtain ⟨rfl, rfl, rfl⟩ := trodAll_nil r1
    obtain rfl : args = #[v0, v1] := by cases args; simp_all
    obtain ⟨ns, hb, h47⟩ := loads_bytes (hval 0 28 v0 rfl rfl) h0 (weight hz (j := 0) rfl rfl)
    obtain ⟨n, A, hv⟩ := acts_open (hval 1 22 v1 rfl rfl) h1 (weight hz (j := 1) rfl rfl)
    exact walkLoads W v0 ns v1 n A hb h47 hv

theorem loads_holds : Rows.SectorLoadsSaid :=
  OpenClaim.holds_of_wide 4 Try.f4 rfl rfl rfl rfl rfl rfl rfl ⟨rfl, rfl, rfl, rfl, rfl⟩ rfl rfl rfl rfl rfl (by kernel_rfl) Try.func4 (by kernel_rfl)
    (of_decide_eq_true (by kernel_rfl)) (by unfold Func.isWrapper; first | (rw [if_pos (by decide +kernel)]; kernel_rfl) | (rw [if_neg (by decide +kernel)]; exact ⟨rfl, rfl⟩))
    (fun os started H enc _ => liftedLoads os started H enc)

#print axioms loads_holds

end Go.Proofs.Ytmipjhbbbpcdlaa.sector
