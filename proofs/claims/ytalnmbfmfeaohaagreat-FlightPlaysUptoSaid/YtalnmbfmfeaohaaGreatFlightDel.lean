/- slices.IndexFunc and slices.DeleteFunc of frames. -/
import Derived.Test.YtalnmbfmfeaohaaGreatRows
import Derived.Test.YtalnmbfmfeaohaaGreatFlightRow
import Derived.Test.YtalnmbfmfeaohaaGreatFlightPick
import Derived.OwnWalk
namespace Go.Proofs.YtalnmbfmfeaohaaGreat.flight
open Go.RowKit
open Go.Proofs.YtalnmbfmfeaohaaGreat.kit Go.Proofs.YtalnmbfmfeaohaaGreat.own
set_option linter.unusedVariables false

/-- What 'slices.IndexFunc' tells. -/
def IdxS (w : World) (p : Frm → Bool) (xs : List Frm) (e : Ending) (w' : World) : Prop := Below w.heap.size w w' ∧
  (((∀ x ∈ xs, p x = false) ∧ e = .returned (.int .i64 (-1))) ∨ ∃ (i : Nat) (h : i < xs.length), p xs[i] = true ∧ (∀ j (hj : j < i), p (xs[j]'(by omega)) = false) ∧ e = .returned (.int .i64 i))

set_option maxHeartbeats 4000000 in
set_option maxRecDepth 100000 in
theorem idxF_any (v fv : Value) (xs : List Frm) (p : Frm → Bool) (w : World) (hs : Sl fc 4 w v xs) (hok : ∀ x ∈ xs, Frm.Ok x) (hm : Meant w fv p) : Calls Tryz.prog 69 #[v, fv] w (IdxS w p xs) := by
  obtain ⟨hl, a, cap, rfl, -, -⟩ := id hs
  obtain ⟨g, lb, rfl, hen, hcall⟩ := hm
  have HS := Lib.hid hs; have HOk := Lib.hid hok; have HCall := Lib.hid hcall
  obtain ⟨L, hL⟩ : ∃ L, xs.length = L := ⟨_, rfl⟩
  have HL := Lib.hid hL
  rw [hL] at hl HS ⊢
  clear hs hok hcall hL
  go_enter Tryz.func69, Tryz.ntmps69
  go_wp2
  go_loopw [8] (fun i wr => ∃ (k : Nat), k ≤ L ∧ i = .int .i64 k ∧ (∀ j (hj : j < xs.length), j < k → p xs[j] = false) ∧ Below w.heap.size w wr) (fun i _ => L - (intOf i).toNat)
  case atStart => exact ⟨0, by omega, rfl, fun j _ hj => by omega, Below.refl _ _⟩
  case round =>
    obtain ⟨k, hk, rfl, hno, hb⟩ := hrel
    have HB := Lib.hid hb; have HNo := Lib.hid hno
    clear hb hno
    by_cases hlt : k < L
    · have hlt' : (k : Int) < L := by omega
      have hi : k < xs.length := by rw [HL.out]; exact hlt
      have hs2 : Sl fc 4 wr (.slice a L cap) xs := HS.out.keep HB.out
      obtain ⟨_, a', cap', he, -, hcell⟩ := hs2
      cases he
      obtain ⟨b, off, rfl, hbl, hcell⟩ := hcell (by omega)
      obtain ⟨c1, c2, c3, c4⟩ := fcells_at (hcell k hi)
      clear hcell hbl
      have hxo := HOk.out xs[k] (List.getElem_mem hi)
      have hxk : xs[k]? = some xs[k] := by simp [hi]
      obtain ⟨x, hx⟩ : ∃ x, xs[k] = x := ⟨_, rfl⟩
      have HX := Lib.hid hx
      rw [hx] at c1 c2 c3 c4 hxo
      obtain ⟨n, s, d, bo⟩ := x
      simp only at c1 c2 c3 c4
      have hc := HCall.out wr HB.out ⟨n, s, d, bo⟩ hxo
      obtain ⟨r, hr⟩ : ∃ r, p ⟨n, s, d, bo⟩ = r := ⟨_, rfl⟩
      rw [hr] at hc
      have HC := Lib.hid hc; have HR := Lib.hid hr
      clear hx hxo hxk hc hr
      cases r with
      | true =>
        go_wp2
        refine HC.out.mono ?_
        rintro e w2 ⟨rfl, hb2⟩
        have HB2 := Lib.hid (HB.out.trans (hb2.mono HB.out.size))
        clear hb2 c1 c2 c3 c4
        go_wp2
        go_ret
        exact ⟨HB2.out, .inr ⟨k, hi, by rw [HX.out]; exact HR.out, fun j hj => HNo.out j (by omega) hj, rfl⟩⟩
      | false =>
        go_wp2
        refine HC.out.mono ?_
        rintro e w2 ⟨rfl, hb2⟩
        have HB2 := Lib.hid (HB.out.trans (hb2.mono HB.out.size))
        clear hb2 c1 c2 c3 c4
        go_wp2
        go_roundw
        case rel =>
          refine ⟨k + 1, by omega, by go_num, fun j hj hjk => ?_, HB2.out⟩
          rcases Nat.lt_or_ge j k with h4 | h4
          · exact HNo.out j hj h4
          · obtain rfl : j = k := by omega
            rw [HX.out]; exact HR.out
        case measure => simp [intOf]; omega
    · obtain rfl : k = L := by omega
      go_wp2
      go_ret
      refine ⟨HB.out, .inl ⟨fun x hx => ?_, rfl⟩⟩
      obtain ⟨j, hj, rfl⟩ := List.getElem_of_mem hx
      exact HNo.out j hj (by have := HL.out; omega)

theorem frm_one (a b c : Int) (d : ByteArray) : (#[Value.int .i64 a, .int .i64 b, .int .i64 c, .string d] : Array Value).all (·.oneCell') = true := by simp [Value.oneCell']
theorem take_set {α : Type} (ys : List α) (i : Nat) (hi : i < ys.length) (x : α) : (ys.set i x).take (i + 1) = ys.take i ++ [x] := by
  rw [List.take_succ_eq_append_getElem (by simpa using hi), List.getElem_set_self, List.take_set_of_le (Nat.le_refl i)]
theorem drop_get {α : Type} {xs ys : List α} {j : Nat} (h : ys.drop j = xs.drop j) (hj : j < ys.length) (hx : j < xs.length) : ys[j] = xs[j] ∧ ys.drop (j + 1) = xs.drop (j + 1) := by
  rw [List.drop_eq_getElem_cons hj, List.drop_eq_getElem_cons hx] at h
  exact List.cons.inj h
theorem filter_snoc {α : Type} (p : α → Bool) (xs : List α) (j : Nat) (hj : j < xs.length) : (xs.take (j + 1)).filter p = (xs.take j).filter p ++ (if p xs[j] then [xs[j]] else []) := by
  rw [List.take_succ_eq_append_getElem hj, List.filter_append]
  cases h : p xs[j] <;> simp [h]
/-- What 'slices.DeleteFunc' leaves. -/
def DelS (w0 w : World) (v : Value) (p : Frm → Bool) (xs : List Frm) (e : Ending) (w' : World) : Prop := ∃ v', e = .returned v' ∧ Own fc 4 38 w' w0.heap.size v' (xs.filter fun x => !p x) ∧ w.grownBy w' v.ownBlock ∧ v'.ownBlock = v.ownBlock
theorem grown_refl (w : World) (o : Option Nat) : w.grownBy w o := ⟨rfl, rfl, rfl, Nat.le_refl _, fun _ _ _ => rfl⟩
theorem grown_of_below {w w' : World} (h : Below w.heap.size w w') (o : Option Nat) : w.grownBy w' o := ⟨h.os, h.tape, h.output, h.size, fun k hk _ => h.block k hk⟩
theorem grown_trans {a b c : World} {o : Option Nat} (h : a.grownBy b o) (k : b.grownBy c o) : a.grownBy c o :=
  ⟨k.os.trans h.os, k.tape.trans h.tape, k.output.trans h.output, Nat.le_trans h.size k.size, fun i hi hn => (k.block i (Nat.lt_of_lt_of_le hi h.size) hn).trans (h.block i hi hn)⟩
def zfr (n : Nat) : List Value := (Builtin.zeroCells #[.int .i64 0, .int .i64 0, .int .i64 0, .string { data := #[] }] n).toList
theorem zeroFrm (w : World) : (zeroValue 38).run Tryz.prog w = .ok (.agg #[.int .i64 0, .int .i64 0, .int .i64 0, .string { data := #[] }]) w := by kernel_rfl

theorem run_clear_frm (w : World) (ty : TypeId) (g o n c : Nat) (hn : 0 < n) (hth : w.there g o (n * 4)) :
    (Builtin.clear_ #[22] ty #[.slice (some ⟨g, o, none⟩) n c]).run Tryz.prog w = .ok (.tuple #[]) (w.setCells g o (zfr n)) := by
  have hs : (Value.cells (.agg #[.int .i64 0, .int .i64 0, .int .i64 0, .string { data := #[] }])).size = 4 := rfl
  exact run_clear_row (P := Tryz.prog) w 22 38 ty (.agg #[.int .i64 0, .int .i64 0, .int .i64 0, .string { data := #[] }]) Tryz.underlying22 zeroFrm g o n c hn (by rw [hs]; exact hth) (frm_one 0 0 0 { data := #[] })

set_option maxHeartbeats 8000000 in
set_option maxRecDepth 100000 in
theorem delF_any (w0 w : World) (v fv : Value) (xs : List Frm) (p : Frm → Bool) (hB : Below w0.heap.size w0 w) (ho : Own fc 4 38 w w0.heap.size v xs) (hok : ∀ x ∈ xs, Frm.Ok x) (hm : Meant w0 fv p) :
    Calls Tryz.prog 60 #[v, fv] w (DelS w0 w v p xs) := by
  have HIdx := Lib.hid (idxF_any v fv xs p w (ho.read fc_len) hok (hm.keep ⟨hB.os, hB.tape, hB.output, hB.size, hB.block⟩))
  obtain ⟨a, c, rfl⟩ := ho.slice
  have HO := Lib.hid ho; have HOk := Lib.hid hok; have HB := Lib.hid hB
  obtain ⟨g, lb, rfl, hen, hcall⟩ := hm
  have HCall := Lib.hid hcall
  have hlen := ho.len
  obtain ⟨L, hL⟩ : ∃ L, xs.length = L := ⟨_, rfl⟩
  have HL := Lib.hid hL
  rw [hL] at HIdx HO hlen ⊢
  have hl63 : L ≤ 9223372036854775807 := by unfold maxLen at hlen; omega
  clear ho hok hB hcall hL hlen
  go_enter Tryz.func60, Tryz.ntmps60
  go_wp2_with fail
  refine HIdx.out.mono ?_
  rintro e w1 ⟨hb1, (⟨hno, rfl⟩ | ⟨i0, hi0, hp0, hno, rfl⟩)⟩
  · have HB1 := Lib.hid hb1; have HNo := Lib.hid hno
    have HO1 := Lib.hid (HO.out.below hb1)
    clear hb1 hno
    go_wp2
    go_ret
    refine ⟨_, rfl, ?_, grown_of_below HB1.out _, rfl⟩
    rw [List.filter_eq_self.2 (fun x hx => by rw [HNo.out x hx]; rfl)]
    exact HO1.out
  · rcases (HO.out.below hb1).at with ⟨-, rfl⟩ | ⟨gb, cap, hv, hgb, hat⟩
    · simp at hi0
    · rw [HL.out] at hv
      obtain ⟨rfl, rfl⟩ : a = some ⟨gb, 0, none⟩ ∧ cap = c := by cases hv; exact ⟨rfl, rfl⟩
      clear hv
      have HB1 := Lib.hid hb1; have HNo := Lib.hid hno; have HAt := Lib.hid hat; have HG := Lib.hid hgb; have HP0 := Lib.hid hp0
      have hi0' : i0 < L := by rw [← HL.out]; exact hi0
      have hcap : L ≤ cap := by have := hat.le; rw [HL.out] at this; exact this
      have hcapm : cap ≤ maxLen := hat.max
      unfold maxLen at hcapm
      have hne : True → ((i0 : Int) == -1) = false := fun _ => by rw [beq_eq_false_iff_ne]; omega
      have hno2 : ∀ y ∈ xs.take i0, p y = false := by
        intro y hy
        obtain ⟨j, hj, rfl⟩ := List.getElem_of_mem hy
        rw [List.getElem_take]
        exact hno j (by simp at hj; omega)
      have HSt : Hid (xs.take i0 = (xs.take (i0 + 1)).filter fun x => !p x) := Lib.hid (by
        rw [filter_snoc _ _ _ hi0, hp0]
        simp only [Bool.not_true, Bool.false_eq_true, if_false, List.append_nil]
        exact (List.filter_eq_self.2 (fun y hy => by rw [hno2 y hy]; rfl)).symm)
      clear HNo HP0 hno2
      clear hb1 hno hat hgb hp0 hi0
      go_wp2
      go_loopw [5, 6] (fun vi vj wr => ∃ (i j : Nat) (ys : List Frm), vi = .int .i64 i ∧ vj = .int .i64 j ∧ i < j ∧ j ≤ L ∧ ys.length = L ∧ ys.take i = ((xs.take j).filter fun x => !p x) ∧ ys.drop j = xs.drop j ∧ OwnAt fc 4 38 wr gb cap ys ∧ w.grownBy wr (some gb)) (fun _ vj _ => L - (intOf vj).toNat)
      case atStart => exact ⟨i0, i0 + 1, xs, rfl, by go_num, by omega, by omega, HL.out, HSt.out, rfl, HAt.out, grown_of_below HB1.out _⟩
      case round =>
        obtain ⟨i, j, ys, rfl, rfl, hij, hjL, hyl, hyt, hyd, hat, hgr⟩ := hrel
        have HAt2 := Lib.hid hat; have HGr := Lib.hid hgr; have HYl := Lib.hid hyl; have HYt := Lib.hid hyt; have HYd := Lib.hid hyd
        clear hat hgr hyl hyt hyd
        have hjI : (j : Int) ≤ L := by omega
        have hi0I : (0 : Int) ≤ i := by omega
        have hiI : (i : Int) < L := by omega
        by_cases hlt : j < L
        · have hlt' : (j : Int) < L := by omega
          have hjy : j < ys.length := by rw [HYl.out]; exact hlt
          have hjx : j < xs.length := by rw [HL.out]; exact hlt
          obtain ⟨hget, hdrop⟩ := drop_get HYd.out hjy hjx
          have hrow := HAt2.out.row fc_len j hjy
          rw [hget] at hrow
          obtain ⟨c1, c2, c3, c4⟩ := fcells_at hrow
          have hxo := HOk.out xs[j] (List.getElem_mem hjx)
          have HFs := Lib.hid (filter_snoc (fun x => !p x) xs j hjx)
          obtain ⟨x, hx⟩ : ∃ x, xs[j] = x := ⟨_, rfl⟩
          rw [hx] at c1 c2 c3 c4 hxo HFs
          have HD := Lib.hid hdrop
          obtain ⟨n, s, d, bo⟩ := x
          simp only at c1 c2 c3 c4
          have hb1 := below_new wr (.cells #[.int .i64 n, .int .i64 s, .int .i64 d, .string bo] 38)
          have hbw : Below w0.heap.size w0 wr := HB.out.grown HGr.out HB.out.size (fun k e => by cases e; exact HG.out)
          have hbA : Below w0.heap.size w0 (wr.alloc (.cells #[.int .i64 n, .int .i64 s, .int .i64 d, .string bo] 38)) := hbw.trans (hb1.mono hbw.size)
          have hc := HCall.out _ hbA ⟨n, s, d, bo⟩ hxo
          obtain ⟨r, hr⟩ : ∃ r, p ⟨n, s, d, bo⟩ = r := ⟨_, rfl⟩
          rw [hr] at hc HFs
          have HC := Lib.hid hc
          have HR1 := Lib.hid (alloc_at wr (.cells #[.int .i64 n, .int .i64 s, .int .i64 d, .string bo] 38))
          have HAt3 := Lib.hid (HAt2.out.block (hb1.block _ HAt2.out.lt))
          have HGr3 := Lib.hid (grown_trans HGr.out (grown_of_below hb1 (some gb)))
          have HLt := Lib.hid (show wr.heap.size < (wr.alloc (.cells #[.int .i64 n, .int .i64 s, .int .i64 d, .string bo] 38)).heap.size by simp)
          have HNe := Lib.hid (show wr.heap.size ≠ gb from Nat.ne_of_gt HAt2.out.lt)
          clear hget hdrop hrow hxo hx hb1 hbw hbA hc hr
          cases r with
          | true =>
            go_wp2
            refine HC.out.mono ?_
            rintro e w2 ⟨rfl, hb2⟩
            have HAt4 := Lib.hid (HAt3.out.block (hb2.block _ HAt3.out.lt))
            have HGr4 := Lib.hid (grown_trans HGr3.out (grown_of_below hb2 (some gb)))
            clear hb2 c1 c2 c3 c4
            go_wp2
            go_roundw
            case rel => exact ⟨i, j + 1, ys, rfl, by go_num, by omega, by omega, HYl.out, by rw [HFs.out, HYt.out]; simp, HD.out, HAt4.out, HGr4.out⟩
            case measure => simp [intOf]; omega
          | false =>
            go_wp2
            refine HC.out.mono ?_
            rintro e w2 ⟨rfl, hb2⟩
            have HAt4 := Lib.hid (HAt3.out.block (hb2.block _ HAt3.out.lt))
            have HGr4 := Lib.hid (grown_trans HGr3.out (grown_of_below hb2 (some gb)))
            have hR2 := fcells_at (x := ⟨n, s, d, bo⟩) (range_of_cells ((hb2.block _ HLt.out).trans HR1.out))
            simp only [Nat.zero_add] at hR2
            obtain ⟨q1, q2, q3, q4⟩ := hR2
            have hiy : i < ys.length := by rw [HYl.out]; omega
            obtain ⟨k0, k1, k2, k3⟩ := fcells_at (HAt4.out.row fc_len i hiy)
            obtain ⟨m0, m1, m2, m3⟩ := HAt4.out.thaw4 i
            have HAt6 : Hid (OwnAt fc 4 38 ((((w2.setCell ⟨gb, i * 4, none⟩ (.int .i64 n)).setCell ⟨gb, i * 4 + 1, none⟩ (.int .i64 s)).setCell ⟨gb, i * 4 + 2, none⟩ (.int .i64 d)).setCell ⟨gb, i * 4 + 3, none⟩ (.string bo)) gb cap (ys.set i ⟨n, s, d, bo⟩)) := Lib.hid (HAt4.out.set fc_len (by decide) i hiy ⟨n, s, d, bo⟩)
            have HGr6 : Hid (w.grownBy ((((w2.setCell ⟨gb, i * 4, none⟩ (.int .i64 n)).setCell ⟨gb, i * 4 + 1, none⟩ (.int .i64 s)).setCell ⟨gb, i * 4 + 2, none⟩ (.int .i64 d)).setCell ⟨gb, i * 4 + 3, none⟩ (.string bo)) (some gb)) := Lib.hid (grown_trans HGr4.out (grown_setCells w2 gb (i * 4) (fc ⟨n, s, d, bo⟩)))
            clear hb2 c1 c2 c3 c4
            go_wp2_with fail
            clear k0 k1 k2 k3 m0 m1 m2 m3 q1 q2 q3 q4
            go_roundw
            case rel =>
              refine ⟨i + 1, j + 1, ys.set i ⟨n, s, d, bo⟩, by go_num, by go_num, by omega, by omega, by simpa using HYl.out, ?_, ?_, HAt6.out, HGr6.out⟩
              · rw [take_set ys i hiy, HFs.out, HYt.out]; simp
              · rw [List.drop_set_of_lt (by omega)]; exact HD.out
            case measure => simp [intOf]; omega
        · obtain rfl : j = L := by omega
          have hzr := zeroFrm
          have hth : wr.there gb (i * 4) ((j - i) * 4) := by
            intro t ht
            have h1 := HAt2.out.there (i + t / 4) (by have := hcap; omega) (t % 4) (Nat.mod_lt _ (by decide))
            rw [show (i + t / 4) * 4 + t % 4 = i * 4 + t by omega] at h1
            exact h1
          have hcl := fun ty => run_clear_frm wr ty gb (i * 4) (j - i) (cap - i) (by omega) hth
          have htk := HAt2.out.take fc_len i (by rw [HYl.out]; omega)
          have hlt : (ys.take i).length = i := by rw [List.length_take, HYl.out]; omega
          have htl := htk.tail fc_len (zfr (j - i))
          rw [hlt] at htl
          have hgc := grown_trans HGr.out (grown_setCells wr gb (i * 4) (zfr (j - i)))
          obtain ⟨w6, hw6⟩ : ∃ w6, wr.setCells gb (i * 4) (zfr (j - i)) = w6 := ⟨_, rfl⟩
          rw [hw6] at htl hgc
          simp only [hw6] at hcl
          have HTl := Lib.hid htl; have HGc := Lib.hid hgc; have HLt := Lib.hid hlt
          have hci : (i : Int) ≤ cap := by omega
          have hcj : (j : Int) ≤ cap := by omega
          clear hzr hth htk hlt htl hgc hw6 hne
          go_wp2
          go_ret
          refine ⟨_, rfl, ?_, HGc.out, rfl⟩
          have hx : xs.filter (fun x => !p x) = ys.take i := by
            have := HYt.out
            rw [← HL.out, List.take_length] at this
            exact this.symm
          rw [hx]
          have := HTl.out.own fc_len HG.out
          rw [HLt.out] at this
          exact this

end Go.Proofs.YtalnmbfmfeaohaaGreat.flight
