/- Texts laid together: SectorLoad, SectorRLoad. -/
import Derived.Test.YtkhghkklekjdaaaDoorRows
import Derived.Test.YtkhghkklekjdaaaDoorSectorNew
import Derived.Test.YtkhghkklekjdaaaDoorSectorRNew
namespace Go.Proofs.YtkhghkklekjdaaaDoor.sector
open Go.RowKit
open Go.Proofs.YtkhghkklekjdaaaDoor.kit Go.Proofs.YtkhghkklekjdaaaDoor.own
set_option linter.unusedVariables false
set_option linter.unusedSimpArgs false

def loaded (n : Nat) (ns : List Nat) : Dev := { fresh n with laid := ns }
theorem loaded_ok {n : Nat} {ns : List Nat} (h : n ≤ 4096) (hl : ns.length = 64 * n) (h8 : ∀ x ∈ ns, x < 256) : (loaded n ns).Ok :=
  ⟨h, hl, h8, by simp [loaded, fresh], by simp [loaded, fresh, keys], by simp [loaded, fresh], by simp [loaded, fresh], by simp [loaded, fresh]⟩
def LoadAt (w : World) (n : Nat) (ns : List Nat) (e : Ending) (w' : World) : Prop := ∃ d, e = .returned (.pointer (some ⟨d, 0, none⟩)) ∧ DevAt w' (Fresh w w') d (loaded n ns) ∧ Below w.heap.size w w'

/-- So many sectors of what is loaded. -/
def part (n : Nat) (ns : List Nat) (q : Nat) : List Nat := ns.take (q * 64) ++ (List.replicate (n * 64) 0).drop (q * 64)
theorem part_len {n q : Nat} {ns : List Nat} (hl : ns.length = 64 * n) (hq : q ≤ n) : (part n ns q).length = 64 * n := by
  have := Nat.mul_le_mul_right 64 hq
  simp only [part, List.length_append, List.length_take, List.length_drop, List.length_replicate]
  omega
theorem part_step {n q : Nat} {ns : List Nat} (hl : ns.length = 64 * n) (hq : q < n) : layAt (part n ns q) q (sectorOf ns q) = part n ns (q + 1) := by
  have h1 := Nat.mul_le_mul_right 64 (show q + 1 ≤ n from hq)
  have h2 : (ns.take (q * 64)).length = q * 64 := by rw [List.length_take]; omega
  have h3 := sectorOf_len hl hq
  simp only [layAt, splice, part, h3]
  rw [List.take_append_of_le_length (by omega), List.take_of_length_le (by omega), List.drop_append, h2, List.drop_of_length_le (by omega), List.nil_append, List.drop_drop, show q * 64 + (q * 64 + 64 - q * 64) = (q + 1) * 64 by omega, ← List.append_assoc]
  congr 1
  rw [show (q + 1) * 64 = q * 64 + 64 by omega, List.take_add]
  rfl
theorem part_end {n : Nat} {ns : List Nat} (hl : ns.length = 64 * n) : part n ns n = ns := by
  simp only [part]
  rw [List.take_of_length_le (by omega), List.drop_of_length_le (by simp), List.append_nil]

theorem Lies.drew' {w : World} {Z : Nat → Prop} {d : Nat} {m : Dev} {vo vb vl : Value} (h : Lies w Z d m vo vb vl) : Lies w.drew Z d m vo vb vl := h.drew
theorem step_store_mid {P : Program} {ops : Array Oper} {op : Oper} {a : Act} {w : World} {K : Act → World → Prop} {Q : Exit → Act → World → Prop} {E : Prop} (hgd : op.guard = none) (ty : TypeId) (x y : Operand) (ho : op.op = .store ty x y)
    (b o : Nat) (cells : Array Value) (hx : a.eval x = .pointer (some ⟨b, o, none⟩)) (hy : a.eval y = .agg cells)
    (ht : w.there b o cells.size) (hi : (P.info? ty).map (·.size) = some cells.size) (h1 : cells.all (·.oneCell') = true)
    (h : K (a.put op.dst undef) (w.setCells b o cells.toList)) : if Region.wanted op (yielded ops a.tmps) = true then Oper.wp P op a w K Q else E := by
  rw [if_pos (by simp [Region.wanted, hgd])]
  exact wp_store_mid ty x y ho b o cells hx hy ht hi h1 h

set_option maxHeartbeats 4000000 in
set_option maxRecDepth 100000 in
theorem Load_ok (w : World) (v : Value) (ns : List Nat) (n : Nat) (hv : SlI w .u8 v ns) (h8 : ∀ x ∈ ns, x < 256) (hcap : ∀ a l c, v = .slice a l c → l ≤ c) (hl : ns.length = 64 * n) (h1 : 1 ≤ n) (hn : n ≤ 4096) :
    Calls Tryd.prog 8 #[v] w (LoadAt w n ns) := by
  obtain ⟨hlm, a, cap, rfl, hc⟩ := id hv
  have hcp := hcap _ _ _ rfl
  obtain ⟨b, off, rfl, hcell⟩ := hc (by omega)
  have HV := Lib.hid hv; have H8 := Lib.hid h8; have HLn := Lib.hid hl
  obtain ⟨L, hL⟩ : ∃ L, ns.length = L := ⟨_, rfl⟩
  have HL := Lib.hid hL
  rw [hL] at hlm HV hcp hl ⊢
  have hbl : b < w.heap.size := cell_lt (hcell 0 (by omega))
  clear hv hc h8 hcap hcell hL
  have e1 : True → ((L : Int) % 64 != 0) = false := fun _ => by
    rw [bne_eq_false_iff_eq]; omega
  have e2 : True → (L : Int) / 64 = (n : Int) := fun _ => by omega
  go_enter Tryd.func8, Tryd.ntmps8
  go_wp2_with fail
  have HLl := Lib.hid hl
  clear e1 e2 hl
  refine (New_ok w n h1 hn).mono ?_
  rintro e w1 ⟨d, rfl, hd1, hb1⟩
  have HD1 := Lib.hid hd1; have HB1 := Lib.hid hb1
  have HSe := Lib.hid (Sectors_any w1 _ d _ hd1)
  rw [show (fresh n).n = n from rfl] at HSe
  clear hd1 hb1
  go_wp2_with fail
  refine HSe.out.mono ?_
  rintro e w' ⟨rfl, rfl⟩
  have HZf := Lib.hid (show ∀ k, Fresh w w1 k → w.heap.size ≤ k from fun k hk => hk.elim False.elim (·.1))
  generalize hZ : Fresh w w1 = Z at HD1 HZf
  have HZe := Lib.hid hZ
  clear hZ HSe
  go_wp2_with fail
  go_loopw [15] (fun vi wr => ∃ q : Nat, q ≤ n ∧ vi = .int .i64 q ∧ (∃ vo vb vl, Lies wr Z d { fresh n with laid := part n ns q } vo vb vl) ∧ Turn Z w1 wr) (fun i _ => n - (intOf i).toNat)
  case atStart =>
    refine ⟨0, by omega, rfl, ?_, Turn.refl _ _⟩
    obtain ⟨_, vo, vb, vl, hh⟩ := HD1.out
    refine ⟨vo, vb, vl, ?_⟩
    have : ({ fresh n with laid := part n ns 0 } : Dev) = fresh n := by simp [part, fresh]
    rw [this]; exact hh
  case round =>
    obtain ⟨q, hq, rfl, ⟨vo, vb, vl, hli⟩, ht⟩ := hrel
    have HLi := Lib.hid hli; have HT := Lib.hid ht
    clear hli ht
    by_cases hqn : q < n
    · have hqI : (q : Int) < (n : Int) := by omega
      have hq0 : (0 : Int) ≤ (q : Int) := by omega
      obtain ⟨gl, cl, hvl⟩ := HLi.out.vl_form (show 0 < n by omega)
      have hvl' : vl = .slice (some ⟨gl, 0, none⟩) n cl := hvl
      subst hvl'
      clear hvl
      have c2 := HLi.out.cell 2
      simp [devCells] at c2
      have hl64 := HLl.out
      have b1 : (q : Int) * 64 < (cap : Int) := by omega
      have b2 : (q : Int) * 64 ≤ (L : Int) := by omega
      have b5 : (0 : Int) ≤ (q : Int) * 64 := by omega
      have e9 : True → IntKind.i64.wrap ((q : Int) * 64) = (q : Int) * 64 := fun _ => by simp [IntKind.wrap, IntKind.bits, IntKind.signed]; omega
      have e10 : True → ((q : Int) * 64).toNat = q * 64 := fun _ => by omega
      have HLd := Lib.hid HLi.out.drew
      have hdl : d < wr.heap.size := HLi.out.lt
      have HX := Lib.hid (sectorOf_len HLn.out hqn)
      have hvr : SlI wr.drew .u8 (.slice (some ⟨b, off, none⟩) L cap) ns := by
        obtain ⟨h1, a', c', e, hcl⟩ := id HV.out
        refine ⟨h1, a', c', e, fun h0 => ?_⟩
        obtain ⟨b', off', e2, hcell⟩ := hcl h0
        have e3 : some (⟨b, off, none⟩ : Addr) = some ⟨b', off', none⟩ := by rw [← e2]; injection e
        injection e3 with e3
        injection e3 with e4 e5
        subst e4 e5
        exact ⟨b, off, e2, fun j hj => (World.cell?_of_block (w := w) (w' := wr.drew) (a := ⟨b, off + j, none⟩) ((HT.out.block b (Nat.lt_of_lt_of_le hbl HB1.out.size) (fun hz => by have := HZf.out b hz; omega)).trans (HB1.out.block b hbl))).trans (hcell j hj)⟩
      have hsub : SlI wr.drew .u8 (.slice (some ⟨b, off + q * 64, none⟩) (L - q * 64) (cap - q * 64)) (ns.drop (q * 64)) := by
        have hLn := HL.out
        have h0 : SlI wr.drew .u8 (.slice (some ⟨b, off, none⟩) ns.length cap) ns := by rw [hLn]; exact hvr
        have := sub_read (lo := q * 64) (hi := L) (a' := some ⟨b, off + q * 64, none⟩) (cap' := cap - q * 64) h0 (by omega) (by omega) (fun _ b off e => by cases e; rfl)
        rw [List.take_of_length_le (by omega)] at this
        exact this
      have HBo := Lib.hid (blockOf_any _ _ wr.drew hsub (by rw [List.length_drop, HL.out]; omega))
      rw [show (ns.drop (q * 64)).take 64 = sectorOf ns q from rfl] at HBo
      clear hvr hsub hl64
      go_upto_region 7 with fail
      refine wp_region_any (by kernel_rfl) ?_
      change wpAny _ _ _ _ _ _ _ (World.drew _)
      refine wpAny_take (i := 0) (oi := { dst := some 18, op := Op.move (Operand.tmp 3), type := 24, pos := "sector.go:53", after := #[], guard := none }) (v := ?_) rfl (by kernel_rfl) (by kernel_rfl) (by kernel_rfl) (fun _ _ _ h => h) (Or.inl ⟨by rfl, ?_⟩) ?_
      rotate_left 1
      · intro W
        go_simp
        try with_reducible rfl
        skip
      try simp only [Act.put, List.setIfInBounds_toArray, List.set_cons_zero, List.set_cons_succ]
      refine wpAny_take (i := 1) (oi := { dst := some 19, op := Op.nilCheck (Operand.tmp 18), type := 0, pos := "sector.go:53", after := #[{ on := 0, ground := Ground.data }], guard := none }) (v := ?_) rfl (by kernel_rfl) (by kernel_rfl) (by kernel_rfl) (fun _ _ _ h => h) (Or.inl ⟨by rfl, ?_⟩) ?_
      rotate_left 1
      · intro W
        go_simp
        try with_reducible rfl
        skip
      try simp only [Act.put, List.setIfInBounds_toArray, List.set_cons_zero, List.set_cons_succ]
      refine wpAny_take (i := 2) (oi := { dst := some 20, op := Op.fieldAddr 69 (Operand.tmp 19) 1, type := 0, pos := "sector.go:53", after := #[{ on := 1, ground := Ground.data }], guard := none }) (v := ?_) rfl (by kernel_rfl) (by kernel_rfl) (by kernel_rfl) (fun _ _ _ h => h) (Or.inl ⟨by rfl, ?_⟩) ?_
      rotate_left 1
      · intro W
        go_simp
        try with_reducible rfl
        skip
      try simp only [Act.put, List.setIfInBounds_toArray, List.set_cons_zero, List.set_cons_succ]
      refine wpAny_take (i := 4) (oi := { dst := some 22, op := Op.move (Operand.tmp 4), type := 3, pos := "sector.go:53", after := #[], guard := none }) (v := ?_) rfl (by kernel_rfl) (by kernel_rfl) (by kernel_rfl) (fun _ _ _ h => h) (Or.inl ⟨by rfl, ?_⟩) ?_
      rotate_left 1
      · intro W
        go_simp
        try with_reducible rfl
        skip
      try simp only [Act.put, List.setIfInBounds_toArray, List.set_cons_zero, List.set_cons_succ]
      refine wpAny_take (i := 5) (oi := { dst := some 23, op := Op.move (Operand.tmp 0), type := 22, pos := "sector.go:53", after := #[], guard := none }) (v := ?_) rfl (by kernel_rfl) (by kernel_rfl) (by kernel_rfl) (fun _ _ _ h => h) (Or.inl ⟨by rfl, ?_⟩) ?_
      rotate_left 1
      · intro W
        go_simp
        try with_reducible rfl
        skip
      try simp only [Act.put, List.setIfInBounds_toArray, List.set_cons_zero, List.set_cons_succ]
      refine wpAny_take (i := 6) (oi := { dst := some 24, op := Op.move (Operand.tmp 4), type := 3, pos := "sector.go:53", after := #[], guard := none }) (v := ?_) rfl (by kernel_rfl) (by kernel_rfl) (by kernel_rfl) (fun _ _ _ h => h) (Or.inl ⟨by rfl, ?_⟩) ?_
      rotate_left 1
      · intro W
        go_simp
        try with_reducible rfl
        skip
      try simp only [Act.put, List.setIfInBounds_toArray, List.set_cons_zero, List.set_cons_succ]
      refine wpAny_take (i := 7) (oi := { dst := some 25, op := Op.binOp BinOp.mul 3 (Operand.tmp 24) (Operand.const (Value.int IntKind.i64 64)) 3, type := 3, pos := "sector.go:53", after := #[{ on := 6, ground := Ground.data }], guard := none }) (v := ?_) rfl (by kernel_rfl) (by kernel_rfl) (by kernel_rfl) (fun _ _ _ h => h) (Or.inl ⟨by rfl, ?_⟩) ?_
      rotate_left 1
      · intro W
        go_simp
        try with_reducible rfl
        skip
      try simp only [Act.put, List.setIfInBounds_toArray, List.set_cons_zero, List.set_cons_succ]
      refine wpAny_ready (rs := [3, 8]) (by kernel_rfl) (by simp) ?_
      refine AllReady.cons (o := { dst := some 21, op := Op.load 63 (Operand.tmp 20), type := 63, pos := "sector.go:53", after := #[{ on := 2, ground := Ground.data }], guard := none }) rfl (fun K hK => ?_) ?_
      · go_simp
        refine hK _ _ ?_
        try clear hK K
        try simp only [Act.put, List.setIfInBounds_toArray, List.set_cons_zero, List.set_cons_succ]
        refine wpAny_ready (rs := [8]) (by kernel_rfl) (by simp) ?_
        refine AllReady.cons (o := { dst := some 26, op := Op.slice 22 (Operand.tmp 23) (some (Operand.tmp 25)) none none, type := 22, pos := "sector.go:53", after := #[{ on := 5, ground := Ground.data }, { on := 7, ground := Ground.data }], guard := none }) rfl (fun K hK => ?_) ?_
        · go_simp
          refine hK _ _ ?_
          try clear hK K
          try simp only [Act.put, List.setIfInBounds_toArray, List.set_cons_zero, List.set_cons_succ]
          refine wpAny_ready (rs := [9]) (by kernel_rfl) (by simp) ?_
          refine AllReady.cons (o := { dst := some 27, op := Op.call { callee := Callee.value (Operand.func 32), args := #[Operand.tmp 26], argTypes := #[22] }, type := 61, pos := "sector.go:53", after := #[{ on := 8, ground := Ground.data }], guard := none }) rfl (fun K hK => ?_) ?_
          · go_simp
            go_wp2_with (go_at_call 32; refine HBo.out.mono ?_; rintro e w3 ⟨rfl, hb3⟩; have c2' := (hb3.cell (p := ⟨d, 2, none⟩) hdl).trans c2; have HB3 := Lib.hid hb3; clear hb3)
            try clear hK K
            try simp only [Act.put, List.setIfInBounds_toArray, List.set_cons_zero, List.set_cons_succ]
            refine wpAny_ready (rs := [10]) (by kernel_rfl) (by simp) ?_
            refine AllReady.cons (o := { dst := some 28, op := Op.indexAddr 63 (Operand.tmp 21) (Operand.tmp 22), type := 0, pos := "sector.go:53", after := #[{ on := 3, ground := Ground.data }, { on := 4, ground := Ground.data }, { on := 0, ground := Ground.phase }, { on := 1, ground := Ground.phase }, { on := 2, ground := Ground.phase }, { on := 3, ground := Ground.phase }, { on := 4, ground := Ground.phase }, { on := 5, ground := Ground.phase }, { on := 6, ground := Ground.phase }, { on := 7, ground := Ground.phase }, { on := 8, ground := Ground.phase }, { on := 9, ground := Ground.phase }], guard := none }) rfl (fun K hK => ?_) ?_
            · go_simp
              refine hK _ _ ?_
              try clear hK K
              try simp only [Act.put, List.setIfInBounds_toArray, List.set_cons_zero, List.set_cons_succ]
              refine wpAny_ready (rs := [11]) (by kernel_rfl) (by simp) ?_
              refine AllReady.cons (o := { dst := none, op := Op.store 61 (Operand.tmp 28) (Operand.tmp 27), type := 0, pos := "sector.go:53", after := #[{ on := 10, ground := Ground.data }, { on := 9, ground := Ground.data }, { on := 9, ground := Ground.chain }, { on := 0, ground := Ground.phase }, { on := 1, ground := Ground.phase }, { on := 2, ground := Ground.phase }, { on := 3, ground := Ground.phase }, { on := 4, ground := Ground.phase }, { on := 5, ground := Ground.phase }, { on := 6, ground := Ground.phase }, { on := 7, ground := Ground.phase }, { on := 8, ground := Ground.phase }, { on := 9, ground := Ground.phase }], guard := none }) rfl (fun K hK => ?_) ?_
              · have HL3 := Lib.hid (HLd.out.stays (fun k hk => HB3.out.block k (HLd.out.zlt k hk)) HB3.out.size)
                have hT := own_there HL3.out.laid (q * 64) (ba (sectorOf ns q)).size (by rw [ba_size, HX.out]; have := Nat.mul_le_mul_right 64 (show q + 1 ≤ n from hqn); show _ ≤ n * 64; omega)
                refine step_store_mid rfl 61 (.tmp 28) (.tmp 27) rfl gl (q * 64) (ba (sectorOf ns q)) rfl rfl hT (by rw [ba_size, HX.out]; exact infoBlk) (ba_one _) (hK _ _ ?_)
                try clear hK K
                try simp only [Act.put, List.setIfInBounds_toArray, List.set_cons_zero, List.set_cons_succ]
                refine wpAny_done (by kernel_rfl) ?_ _
                obtain ⟨l1, l2⟩ := HL3.out.lay q (sectorOf ns q) hqn HX.out
                have HP := Lib.hid l1; have HG := Lib.hid (turn_grown l2 (HL3.out.zl gl rfl))
                have HT3 := Lib.hid ((HT.out.trans' (Turn.drew Z wr)).trans' (Turn.of_below HB3.out))
                rw [ba_list]
                clear l1 l2 hT c2 c2'
                go_wp2
                go_roundw
                case rel =>
                  refine ⟨q + 1, by omega, by go_num, ⟨vo, vb, .slice (some ⟨gl, 0, none⟩) n cl, ?_⟩, HT3.out.trans' HG.out⟩
                  have := HP.out
                  simp only at this
                  rw [part_step HLn.out hqn] at this
                  exact this
                case measure => simp [intOf]; omega
              exact AllReady.nil
            exact AllReady.nil
          exact AllReady.nil
        exact AllReady.nil
      refine AllReady.cons (o := { dst := some 26, op := Op.slice 22 (Operand.tmp 23) (some (Operand.tmp 25)) none none, type := 22, pos := "sector.go:53", after := #[{ on := 5, ground := Ground.data }, { on := 7, ground := Ground.data }], guard := none }) rfl (fun K hK => ?_) ?_
      · go_simp
        refine hK _ _ ?_
        try clear hK K
        try simp only [Act.put, List.setIfInBounds_toArray, List.set_cons_zero, List.set_cons_succ]
        refine wpAny_ready (rs := [3, 9]) (by kernel_rfl) (by simp) ?_
        refine AllReady.cons (o := { dst := some 21, op := Op.load 63 (Operand.tmp 20), type := 63, pos := "sector.go:53", after := #[{ on := 2, ground := Ground.data }], guard := none }) rfl (fun K hK => ?_) ?_
        · go_simp
          refine hK _ _ ?_
          try clear hK K
          try simp only [Act.put, List.setIfInBounds_toArray, List.set_cons_zero, List.set_cons_succ]
          refine wpAny_ready (rs := [9]) (by kernel_rfl) (by simp) ?_
          refine AllReady.cons (o := { dst := some 27, op := Op.call { callee := Callee.value (Operand.func 32), args := #[Operand.tmp 26], argTypes := #[22] }, type := 61, pos := "sector.go:53", after := #[{ on := 8, ground := Ground.data }], guard := none }) rfl (fun K hK => ?_) ?_
          · go_simp
            go_wp2_with (go_at_call 32; refine HBo.out.mono ?_; rintro e w3 ⟨rfl, hb3⟩; have c2' := (hb3.cell (p := ⟨d, 2, none⟩) hdl).trans c2; have HB3 := Lib.hid hb3; clear hb3)
            try clear hK K
            try simp only [Act.put, List.setIfInBounds_toArray, List.set_cons_zero, List.set_cons_succ]
            refine wpAny_ready (rs := [10]) (by kernel_rfl) (by simp) ?_
            refine AllReady.cons (o := { dst := some 28, op := Op.indexAddr 63 (Operand.tmp 21) (Operand.tmp 22), type := 0, pos := "sector.go:53", after := #[{ on := 3, ground := Ground.data }, { on := 4, ground := Ground.data }, { on := 0, ground := Ground.phase }, { on := 1, ground := Ground.phase }, { on := 2, ground := Ground.phase }, { on := 3, ground := Ground.phase }, { on := 4, ground := Ground.phase }, { on := 5, ground := Ground.phase }, { on := 6, ground := Ground.phase }, { on := 7, ground := Ground.phase }, { on := 8, ground := Ground.phase }, { on := 9, ground := Ground.phase }], guard := none }) rfl (fun K hK => ?_) ?_
            · go_simp
              refine hK _ _ ?_
              try clear hK K
              try simp only [Act.put, List.setIfInBounds_toArray, List.set_cons_zero, List.set_cons_succ]
              refine wpAny_ready (rs := [11]) (by kernel_rfl) (by simp) ?_
              refine AllReady.cons (o := { dst := none, op := Op.store 61 (Operand.tmp 28) (Operand.tmp 27), type := 0, pos := "sector.go:53", after := #[{ on := 10, ground := Ground.data }, { on := 9, ground := Ground.data }, { on := 9, ground := Ground.chain }, { on := 0, ground := Ground.phase }, { on := 1, ground := Ground.phase }, { on := 2, ground := Ground.phase }, { on := 3, ground := Ground.phase }, { on := 4, ground := Ground.phase }, { on := 5, ground := Ground.phase }, { on := 6, ground := Ground.phase }, { on := 7, ground := Ground.phase }, { on := 8, ground := Ground.phase }, { on := 9, ground := Ground.phase }], guard := none }) rfl (fun K hK => ?_) ?_
              · have HL3 := Lib.hid (HLd.out.stays (fun k hk => HB3.out.block k (HLd.out.zlt k hk)) HB3.out.size)
                have hT := own_there HL3.out.laid (q * 64) (ba (sectorOf ns q)).size (by rw [ba_size, HX.out]; have := Nat.mul_le_mul_right 64 (show q + 1 ≤ n from hqn); show _ ≤ n * 64; omega)
                refine step_store_mid rfl 61 (.tmp 28) (.tmp 27) rfl gl (q * 64) (ba (sectorOf ns q)) rfl rfl hT (by rw [ba_size, HX.out]; exact infoBlk) (ba_one _) (hK _ _ ?_)
                try clear hK K
                try simp only [Act.put, List.setIfInBounds_toArray, List.set_cons_zero, List.set_cons_succ]
                refine wpAny_done (by kernel_rfl) ?_ _
                obtain ⟨l1, l2⟩ := HL3.out.lay q (sectorOf ns q) hqn HX.out
                have HP := Lib.hid l1; have HG := Lib.hid (turn_grown l2 (HL3.out.zl gl rfl))
                have HT3 := Lib.hid ((HT.out.trans' (Turn.drew Z wr)).trans' (Turn.of_below HB3.out))
                rw [ba_list]
                clear l1 l2 hT c2 c2'
                go_wp2
                go_roundw
                case rel =>
                  refine ⟨q + 1, by omega, by go_num, ⟨vo, vb, .slice (some ⟨gl, 0, none⟩) n cl, ?_⟩, HT3.out.trans' HG.out⟩
                  have := HP.out
                  simp only at this
                  rw [part_step HLn.out hqn] at this
                  exact this
                case measure => simp [intOf]; omega
              exact AllReady.nil
            exact AllReady.nil
          exact AllReady.nil
        refine AllReady.cons (o := { dst := some 27, op := Op.call { callee := Callee.value (Operand.func 32), args := #[Operand.tmp 26], argTypes := #[22] }, type := 61, pos := "sector.go:53", after := #[{ on := 8, ground := Ground.data }], guard := none }) rfl (fun K hK => ?_) ?_
        · go_simp
          go_wp2_with (go_at_call 32; refine HBo.out.mono ?_; rintro e w3 ⟨rfl, hb3⟩; have c2' := (hb3.cell (p := ⟨d, 2, none⟩) hdl).trans c2; have HB3 := Lib.hid hb3; clear hb3)
          try clear hK K
          try simp only [Act.put, List.setIfInBounds_toArray, List.set_cons_zero, List.set_cons_succ]
          refine wpAny_ready (rs := [3]) (by kernel_rfl) (by simp) ?_
          refine AllReady.cons (o := { dst := some 21, op := Op.load 63 (Operand.tmp 20), type := 63, pos := "sector.go:53", after := #[{ on := 2, ground := Ground.data }], guard := none }) rfl (fun K hK => ?_) ?_
          · go_simp
            refine hK _ _ ?_
            try clear hK K
            try simp only [Act.put, List.setIfInBounds_toArray, List.set_cons_zero, List.set_cons_succ]
            refine wpAny_ready (rs := [10]) (by kernel_rfl) (by simp) ?_
            refine AllReady.cons (o := { dst := some 28, op := Op.indexAddr 63 (Operand.tmp 21) (Operand.tmp 22), type := 0, pos := "sector.go:53", after := #[{ on := 3, ground := Ground.data }, { on := 4, ground := Ground.data }, { on := 0, ground := Ground.phase }, { on := 1, ground := Ground.phase }, { on := 2, ground := Ground.phase }, { on := 3, ground := Ground.phase }, { on := 4, ground := Ground.phase }, { on := 5, ground := Ground.phase }, { on := 6, ground := Ground.phase }, { on := 7, ground := Ground.phase }, { on := 8, ground := Ground.phase }, { on := 9, ground := Ground.phase }], guard := none }) rfl (fun K hK => ?_) ?_
            · go_simp
              refine hK _ _ ?_
              try clear hK K
              try simp only [Act.put, List.setIfInBounds_toArray, List.set_cons_zero, List.set_cons_succ]
              refine wpAny_ready (rs := [11]) (by kernel_rfl) (by simp) ?_
              refine AllReady.cons (o := { dst := none, op := Op.store 61 (Operand.tmp 28) (Operand.tmp 27), type := 0, pos := "sector.go:53", after := #[{ on := 10, ground := Ground.data }, { on := 9, ground := Ground.data }, { on := 9, ground := Ground.chain }, { on := 0, ground := Ground.phase }, { on := 1, ground := Ground.phase }, { on := 2, ground := Ground.phase }, { on := 3, ground := Ground.phase }, { on := 4, ground := Ground.phase }, { on := 5, ground := Ground.phase }, { on := 6, ground := Ground.phase }, { on := 7, ground := Ground.phase }, { on := 8, ground := Ground.phase }, { on := 9, ground := Ground.phase }], guard := none }) rfl (fun K hK => ?_) ?_
              · have HL3 := Lib.hid (HLd.out.stays (fun k hk => HB3.out.block k (HLd.out.zlt k hk)) HB3.out.size)
                have hT := own_there HL3.out.laid (q * 64) (ba (sectorOf ns q)).size (by rw [ba_size, HX.out]; have := Nat.mul_le_mul_right 64 (show q + 1 ≤ n from hqn); show _ ≤ n * 64; omega)
                refine step_store_mid rfl 61 (.tmp 28) (.tmp 27) rfl gl (q * 64) (ba (sectorOf ns q)) rfl rfl hT (by rw [ba_size, HX.out]; exact infoBlk) (ba_one _) (hK _ _ ?_)
                try clear hK K
                try simp only [Act.put, List.setIfInBounds_toArray, List.set_cons_zero, List.set_cons_succ]
                refine wpAny_done (by kernel_rfl) ?_ _
                obtain ⟨l1, l2⟩ := HL3.out.lay q (sectorOf ns q) hqn HX.out
                have HP := Lib.hid l1; have HG := Lib.hid (turn_grown l2 (HL3.out.zl gl rfl))
                have HT3 := Lib.hid ((HT.out.trans' (Turn.drew Z wr)).trans' (Turn.of_below HB3.out))
                rw [ba_list]
                clear l1 l2 hT c2 c2'
                go_wp2
                go_roundw
                case rel =>
                  refine ⟨q + 1, by omega, by go_num, ⟨vo, vb, .slice (some ⟨gl, 0, none⟩) n cl, ?_⟩, HT3.out.trans' HG.out⟩
                  have := HP.out
                  simp only at this
                  rw [part_step HLn.out hqn] at this
                  exact this
                case measure => simp [intOf]; omega
              exact AllReady.nil
            exact AllReady.nil
          exact AllReady.nil
        exact AllReady.nil
      exact AllReady.nil
    · obtain rfl : q = n := by omega
      have hqI : ¬ (q : Int) < (q : Int) := by omega
      have hB := HB1.out
      have HFin := Lib.hid (show DevAt wr (Fresh w wr) d (loaded q ns) from by
        have hp : ({ fresh q with laid := part q ns q } : Dev) = loaded q ns := by rw [part_end HLn.out]; rfl
        rw [hp] at HLi
        refine ⟨loaded_ok hn HLn.out H8.out, vo, vb, vl, HLi.out.widen (fun k hk => ?_) (fun k hk => hk.elim False.elim (·.2))⟩
        have h2 := HLi.out.zlt k hk
        exact .inr ⟨HZf.out k hk, h2⟩)
      have HBel := Lib.hid (show Below w.heap.size w wr from Turn.below HB1.out HT.out HB1.out.size HZf.out)
      clear hB
      go_wp2
      go_ret
      exact ⟨d, rfl, HFin.out, HBel.out⟩

set_option maxRecDepth 100000 in
theorem Load_form (w : World) (a : Option Addr) (L c : Nat) (h : ¬ L % 64 = 0) :
    Calls Tryd.prog 8 #[.slice a L c] w fun e w' => e = .returned (.pointer none) ∧ w = w' := by
  have e1 : True → ((L : Int) % 64 != 0) = true := fun _ => by
    rw [bne_iff_ne]; omega
  clear h
  go_enter Tryd.func8, Tryd.ntmps8
  go_wp2
  go_ret
  exact ⟨rfl, rfl⟩

set_option maxRecDepth 100000 in
theorem Load_count (w : World) (a : Option Addr) (L c n : Nat) (hlm : L ≤ 9223372036854775807) (hl : L = 64 * n) (h : n < 1 ∨ 4096 < n) :
    Calls Tryd.prog 8 #[.slice a L c] w fun e w' => e = .returned (.pointer none) ∧ w = w' := by
  have e1 : True → ((L : Int) % 64 != 0) = false := fun _ => by
    rw [bne_eq_false_iff_eq]; omega
  have e2 : True → (L : Int) / 64 = (n : Int) := fun _ => by omega
  have e3 : True → wrap64 (n : Int) = (n : Int) := fun _ => by simp [wrap64]; omega
  have HN := Lib.hid (New_bad w (n : Int) (by omega))
  clear hl h
  go_enter Tryd.func8, Tryd.ntmps8
  go_wp2_with fail
  refine HN.out.mono ?_
  rintro e w' ⟨rfl, rfl⟩
  go_wp2_with fail
  refine (Sectors_nil w).mono ?_
  rintro e w' ⟨rfl, rfl⟩
  go_wp2_with fail
  refine wp_loop_rounds 1 ?_
  rw [rounds_succ]
  go_wp2
  go_ret
  exact ⟨rfl, rfl⟩

end Go.Proofs.YtkhghkklekjdaaaDoor.sector

namespace Go.Proofs.YtkhghkklekjdaaaDoor.sector
open Go.RowKit
open Go.Proofs.YtkhghkklekjdaaaDoor.kit Go.Proofs.YtkhghkklekjdaaaDoor.own
set_option linter.unusedVariables false
set_option linter.unusedSimpArgs false

def RLoadAt (w : World) (n : Nat) (ns : List Nat) (e : Ending) (w' : World) : Prop := ∃ d, e = .returned (.pointer (some ⟨d, 0, none⟩)) ∧ RAt w' (Fresh w w') d (loaded n ns) ∧ Below w.heap.size w w'

theorem RLies.widen {w : World} {Z Z' : Nat → Prop} {d : Nat} {m : Dev} {vd vc : Value} {pk : Nat} (h : RLies w Z d m vd vc pk) (hz : ∀ k, Z k → Z' k) (hl : ∀ k, Z' k → k < w.heap.size) : RLies w Z' d m vd vc pk :=
  ⟨h.box, h.down, h.cache, h.pick, hz _ h.zd, fun g hg => hz _ (h.zo g hg), fun g hg => hz _ (h.zc g hg), hl⟩
theorem RLies.load {w : World} {Z : Nat → Prop} {d : Nat} {m : Dev} {g N cap : Nat} {vc : Value} {pk : Nat} {cur : Array Value} (h : RLies w Z d m (.slice (some ⟨g, 0, none⟩) N cap) vc pk) (ns : List Nat) (hl : ns.length = N)
    (hg : w.heap[g]? = some (.cells cur 5 (0, 0))) (hN : N ≤ cap) (hm : cap ≤ maxLen) (hs : cur.size = cap) :
    RLies (w.setRow g (cur.toList.take 0 ++ (bv ns ++ cur.toList.drop (0 + (bv ns).length))).toArray) Z d { m with laid := ns } (.slice (some ⟨g, 0, none⟩) N cap) vc pk ∧
    Turn Z w (w.setRow g (cur.toList.take 0 ++ (bv ns ++ cur.toList.drop (0 + (bv ns).length))).toArray) := by
  have hd := h.down
  have n1 := own_ne (e' := 112) hd h.cache (by decide) (g := g) rfl
  have n2 := own_ne_box hd h.box (by decide)
  have n3 : d ≠ g := fun e => n2 (by rw [e]; rfl)
  have hb : (bv ns).length = N := by rw [bv_len]; exact hl
  refine ⟨⟨(setRow_other w g d _ n3).trans h.box, ?_, own_stays h.cache (fun q hq => setRow_other w g q _ (fun e => n1 (e ▸ hq))), h.pick, h.zd, h.zo, h.zc, fun q hq => Nat.lt_of_lt_of_le (h.zlt q hq) (by simp [World.setRow])⟩, ⟨rfl, rfl, rfl, by simp [World.setRow], fun k hk hn => setRow_other w g k _ (fun e => hn (e ▸ h.zo g rfl))⟩⟩
  show World.ownsRow _ 0 _ 1 _ _ _
  refine ⟨by simp, .inr ⟨g, cap, _, by rw [hl], Nat.zero_le _, setRow_heap w g cur _ _ _ hg, (by show ns.length ≤ cap; omega), hm, ?_, ?_⟩⟩
  · have : cur.toList.length = cap := by simpa using hs
    simp only [List.size_toArray, List.length_append, List.length_take, List.length_drop, hb]
    omega
  · simp only [List.take_zero, List.nil_append]
    rw [List.take_append_of_le_length (by rw [hb]; omega), List.take_of_length_le (by rw [hb]; omega)]
    rfl

set_option maxHeartbeats 1000000 in
set_option maxRecDepth 100000 in
theorem rLoad_ok (w : World) (v : Value) (ns : List Nat) (n : Nat) (hv : SlI w .u8 v ns) (h8 : ∀ x ∈ ns, x < 256) (hl : ns.length = 64 * n) (h1 : 1 ≤ n) (hn : n ≤ 4096) :
    Calls Tryd.prog 9 #[v] w (RLoadAt w n ns) := by
  obtain ⟨hlm, a, cap, rfl, hc⟩ := id hv
  obtain ⟨b, off, rfl, hcell⟩ := hc (by omega)
  have H8 := Lib.hid h8; have HLn := Lib.hid hl; have HC := Lib.hid hcell
  obtain ⟨L, hL⟩ : ∃ L, ns.length = L := ⟨_, rfl⟩
  have HL := Lib.hid hL
  rw [hL] at hlm hl ⊢
  have e1 : True → ((L : Int) % 64 != 0) = false := fun _ => by
    rw [bne_eq_false_iff_eq]; omega
  have e2 : True → (L : Int) / 64 = (n : Int) := fun _ => by omega
  clear hv hc h8 hcell hL
  go_enter Tryd.func9, Tryd.ntmps9
  go_wp2_with fail
  have HLl := Lib.hid hl
  clear e1 e2 hl
  refine (rNew_ok w n h1 hn).mono ?_
  rintro e w1 ⟨d, rfl, hr, hb1⟩
  have HB1 := Lib.hid hb1
  have HZf := Lib.hid (show ∀ k, Fresh w w1 k → w.heap.size ≤ k from fun k hk => hk.elim False.elim (·.1))
  have HZ2 := Lib.hid (show ∀ k, Fresh w w1 k → k < w1.heap.size from fun k hk => hk.elim False.elim (·.2))
  generalize Fresh w w1 = Z at hr HZf HZ2
  obtain ⟨ho, vd, vc, pk, hh⟩ := hr
  have hlen : (fresh n).laid.length = L := by have := HLl.out; simp [fresh]; omega
  have hdn := hh.down
  unfold OwnI at hdn
  rw [hlen] at hdn
  rcases hdn.2 with ⟨_, h0⟩ | ⟨g, cp, cur, rfl, _, hg, hc1, hc2, hc3, hc4⟩
  · have := HLl.out; omega
  rw [Nat.mul_one] at hc3
  have c1 := hh.cell 1
  simp [rCells] at c1
  have HF := Lib.hid (hh.load ns (by rw [HL.out]) hg hc1 hc2 hc3)
  have HG := Lib.hid hg
  have HS := Lib.hid hc3; have HCL := Lib.hid hc1
  clear hh hg hdn ho hb1 hlen hc1 hc2 hc3 hc4
  go_wp2_with (refine wpList_copy_own (o := ⟨some 19, _, _, _, _, _⟩) rfl (.tmp 17) (.tmp 18) 22 22 rfl 5 Tryd.underlying22 infoByte1 g 0 L cp ⟨b, off, none⟩ L cap rfl rfl cur 5 HG.out (bv ns) ?_ ?_ ?_ (bv_one _) ?_)
  case refine_1 =>
    show _ = min L L
    rw [bv_len, HL.out, Nat.min_self]
  case refine_2 =>
    intro j v hj
    have hjl : j < ns.length := by have := (List.getElem?_eq_some_iff.1 hj).1; rwa [bv_len] at this
    rw [bv_at ns j hjl] at hj
    cases hj
    have h := HC.out j hjl
    rw [add_plain']
    exact (HB1.out.cell (p := ⟨b, off + j, none⟩) (cell_lt h)).trans h
  case refine_3 =>
    have h1 := HS.out; have h2 := HCL.out; have h3 := HL.out
    rw [bv_len]; omega
  have hf := HF.out
  simp only [List.take_zero, List.nil_append, Nat.zero_add, bv_len] at hf
  obtain ⟨f1, f2⟩ := hf
  have F1 := Lib.hid f1; have F2 := Lib.hid f2
  clear f1 f2 HF
  generalize w1.setRow g _ = w2 at F1 F2 ⊢
  go_ret
  refine ⟨d, rfl, ⟨loaded_ok hn HLn.out H8.out, _, vc, pk, RLies.widen F1.out ?_ ?_⟩, Turn.below HB1.out F2.out HB1.out.size HZf.out⟩
  · intro k hk
    exact .inr ⟨HZf.out k hk, Nat.lt_of_lt_of_le (HZ2.out k hk) F2.out.size⟩
  · intro k hk
    exact hk.elim False.elim (·.2)

set_option maxRecDepth 100000 in
theorem rLoad_form (w : World) (a : Option Addr) (L c : Nat) (h : ¬ L % 64 = 0) :
    Calls Tryd.prog 9 #[.slice a L c] w fun e w' => e = .returned (.pointer none) ∧ w = w' := by
  have e1 : True → ((L : Int) % 64 != 0) = true := fun _ => by
    rw [bne_iff_ne]; omega
  clear h
  go_enter Tryd.func9, Tryd.ntmps9
  go_wp2
  go_ret
  exact ⟨rfl, rfl⟩

set_option maxRecDepth 100000 in
theorem rLoad_count (w : World) (a : Option Addr) (L c n : Nat) (hlm : L ≤ 9223372036854775807) (hl : L = 64 * n) (h : n < 1 ∨ 4096 < n) :
    Calls Tryd.prog 9 #[.slice a L c] w fun e w' => e = .returned (.pointer none) ∧ w = w' := by
  have e1 : True → ((L : Int) % 64 != 0) = false := fun _ => by
    rw [bne_eq_false_iff_eq]; omega
  have e2 : True → (L : Int) / 64 = (n : Int) := fun _ => by omega
  have e3 : True → wrap64 (n : Int) = (n : Int) := fun _ => by simp [wrap64]; omega
  have HN := Lib.hid (rNew_bad w (n : Int) (by omega))
  clear hl h
  go_enter Tryd.func9, Tryd.ntmps9
  go_wp2_with fail
  refine HN.out.mono ?_
  rintro e w' ⟨rfl, rfl⟩
  go_wp2
  go_ret
  exact ⟨rfl, rfl⟩

end Go.Proofs.YtkhghkklekjdaaaDoor.sector
