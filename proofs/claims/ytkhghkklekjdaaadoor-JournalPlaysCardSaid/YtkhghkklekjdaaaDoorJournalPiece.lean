/- What a sector's bytes have of a record. -/
import Derived.Test.YtkhghkklekjdaaaDoorRows
import Derived.Test.YtkhghkklekjdaaaDoorJournalLow
import Derived.BigQuiet
import Derived.Deep.RegionHeld3
import Derived.Shelf.SlSortCmp.QuietGrown
namespace Go.Proofs.YtkhghkklekjdaaaDoor.journal
open Go.RowKit
open Go.Proofs.YtkhghkklekjdaaaDoor.kit Go.Proofs.YtkhghkklekjdaaaDoor.own Go.Proofs.YtkhghkklekjdaaaDoor.jm
open Go.Proofs.YtkhghkklekjdaaaDoor.fm (crc or_add take_snoc' lowN)
open Go.Proofs.YtkhghkklekjdaaaDoor.frame (byte_at Nib Sum_any)
open Go.Proofs.YtkhghkklekjdaaaDoor.sector (infoByte bv ba bv_at bv_len)
set_option linter.unusedVariables false
set_option linter.unusedSimpArgs false

theorem infoPc : (Tryd.prog.info? 92).map (·.size) = some 3 := by kernel_rfl

/-- A variable of three cells. -/
def Box3 (w : World) (N : Nat) (t : TypeId) (a b c : Value) : Prop := w.heap[N]? = some (.cells #[a, b, c] t (0, 0))
theorem Box3.cells {w : World} {N : Nat} {t : TypeId} {a b c : Value} (h : Box3 w N t a b c) : w.cell? ⟨N, 0, none⟩ = some a ∧ w.cell? ⟨N, 1, none⟩ = some b ∧ w.cell? ⟨N, 2, none⟩ = some c := by
  unfold Box3 at h
  refine ⟨?_, ?_, ?_⟩ <;> simp [World.cell?, h]
theorem Box3.free {w : World} {N : Nat} {t : TypeId} {a b c : Value} (h : Box3 w N t a b c) : w.frozen? ⟨N, 0, none⟩ = false ∧ w.frozen? ⟨N, 1, none⟩ = false ∧ w.frozen? ⟨N, 2, none⟩ = false := by
  unfold Box3 at h
  refine ⟨?_, ?_, ?_⟩ <;> simp [World.frozen?, h]
theorem Box3.lt {w : World} {N : Nat} {t : TypeId} {a b c : Value} (h : Box3 w N t a b c) : N < w.heap.size := (Array.getElem?_eq_some_iff.1 h).1
theorem Box3.keep {w w' : World} {N : Nat} {t : TypeId} {a b c : Value} (h : Box3 w N t a b c) (hb : Below w.heap.size w w') : Box3 w' N t a b c := (hb.block _ h.lt).trans h
theorem Box3.set {w : World} {N : Nat} {t : TypeId} {a b c : Value} (h : Box3 w N t a b c) (a' b' c' : Value) : Box3 (((w.setCell ⟨N, 0, none⟩ a').setCell ⟨N, 1, none⟩ b').setCell ⟨N, 2, none⟩ c') N t a' b' c' := by
  have h1 := heap_setCell_same w N 0 _ _ a' h
  have h2 := heap_setCell_same _ N 1 _ _ b' h1
  have h3 := heap_setCell_same _ N 2 _ _ c' h2
  unfold Box3
  simpa using h3
theorem Box3.range {w : World} {N : Nat} {t : TypeId} {a b c : Value} (h : Box3 w N t a b c) : w.rangeAt N 0 [a, b, c] := fun j v hv => by
  unfold Box3 at h
  simp only [World.cell?, h]
  simpa using hv
theorem below3 {B : Nat} {w W : World} (h : Below B w W) {N : Nat} (hN : B ≤ N) (a b c : Value) : Below B w (((W.setCell ⟨N, 0, none⟩ a).setCell ⟨N, 1, none⟩ b).setCell ⟨N, 2, none⟩ c) :=
  ((h.setCell (p := ⟨N, 0, none⟩) hN a).setCell (p := ⟨N, 1, none⟩) hN b).setCell (p := ⟨N, 2, none⟩) hN c
theorem retPc {fn : Func} {t : Tmp} {tmps : Array Value} {w : World} {N : Nat} {a b c : Value} (h : fn.results = #[.cell t 92]) (ht : tmps.getD t undef = .pointer (some ⟨N, 0, none⟩)) (hx : Box3 w N 92 a b c) :
    (results fn tmps).run Tryd.prog w = .ok (.agg #[a, b, c]) w := ret_cell h ht hx.range Tryd.underlying92 rfl infoPc

/-- A piece, as a value: g is the block that the sector's bytes lie in. -/
def PcV (g : Nat) (p : Pc) : Value := .agg #[.int .u8 (p.mark : Nat), .int .i64 (p.num : Nat), if p.mark = 0 then .slice none 0 0 else .slice (some ⟨g, 9, none⟩) 55 55]

theorem wrap_big (x : Nat) (h : x < 18446744073709551616) (hb : ¬ (1 ≤ x ∧ x ≤ maxNum)) : IntKind.i64.wrap (x : Int) < 1 ∨ (1 ≤ IntKind.i64.wrap (x : Int) ∧ 4611686018427387904 < IntKind.i64.wrap (x : Int)) := by
  rw [IntKind.wrap_i64]
  unfold maxNum at hb
  omega

set_option maxHeartbeats 8000000 in
set_option maxRecDepth 100000 in
theorem pieceOf_any (g : Nat) (b : List Nat) (w : World) (hr : w.rangeAt g 0 (bv b)) (hl : b.length = 64) (h8 : ∀ n ∈ b, n < 256) :
    Calls Tryd.prog 52 #[.slice (some ⟨g, 0, none⟩) 64 64] w fun e w' => e = .returned (PcV g (pcOf b)) ∧ Below w.heap.size w w' := by
  have hs1 : SlI w .u8 (.slice (some ⟨g, 1, none⟩) 8 63) ((b.drop 1).take 8) := by
    refine ⟨by simp; omega, some ⟨g, 1, none⟩, 63, by simp [hl], fun _ => ⟨g, 1, rfl, fun j hj => ?_⟩⟩
    have hj8 : j < 8 := by simp at hj; omega
    have := hr (1 + j) _ (bv_at b (1 + j) (by omega))
    rw [Nat.zero_add] at this
    rw [this]
    simp [List.getD, List.getElem?_take, hj8, Nat.add_comm]
  have hc0 : w.cell? ⟨g, 0, none⟩ = some (.int .u8 (b.getD 0 0 : Nat)) := hr 0 _ (bv_at b 0 (by omega))
  have hlow := low_any _ _ w hs1 (fun n hn => h8 n (List.mem_of_mem_drop (List.mem_of_mem_take hn))) (by simp; omega)
  have hx8 : ofLe ((b.drop 1).take 8) < 18446744073709551616 := by
    have := ofLe_lt ((b.drop 1).take 8) (fun n hn => h8 n (List.mem_of_mem_drop (List.mem_of_mem_take hn)))
    rw [List.length_take, List.length_drop, hl] at this
    exact this
  have HE : Hid (pcOf b = if (b.getD 0 0 = 1 ∨ b.getD 0 0 = 2) ∧ 1 ≤ ofLe ((b.drop 1).take 8) ∧ ofLe ((b.drop 1).take 8) ≤ maxNum then ⟨b.getD 0 0, ofLe ((b.drop 1).take 8), b.drop 9⟩ else ⟨0, 0, []⟩) := Lib.hid rfl
  generalize hX : ofLe ((b.drop 1).take 8) = x at hlow hx8 HE
  generalize hm : b.getD 0 0 = m at HE hc0
  have hm8 : m < 256 := by rw [← hm]; exact byte_at b h8 0
  have hb1 := (Below.refl w.heap.size w).alloc (Nat.le_refl _) (.cells #[.int .u8 0, .int .i64 0, .slice none 0 0] 92)
  have hB := alloc_at w (.cells #[.int .u8 0, .int .i64 0, .slice none 0 0] 92)
  have hc1 := (hb1.cell (p := ⟨g, 0, none⟩) (cell_lt hc0)).trans hc0
  have hs2 := hs1.keep hb1
  have HLo : Hid (∀ u, Below (w.alloc (.cells #[.int .u8 0, .int .i64 0, .slice none 0 0] 92)).heap.size (w.alloc (.cells #[.int .u8 0, .int .i64 0, .slice none 0 0] 92)) u → Calls Tryd.prog 61 #[.slice (some ⟨g, 1, none⟩) 8 63] u fun e w' => e = .returned (.int .u64 (x : Nat)) ∧ u = w') := Lib.hid fun u hu => by
    rw [← hX]
    exact low_any _ _ _ (hs2.keep hu) (fun n hn => h8 n (List.mem_of_mem_drop (List.mem_of_mem_take hn))) (by simp; omega)
  have HB := Lib.hid (show Box3 _ w.heap.size _ _ _ _ from hB)
  have HW := Lib.hid hb1
  clear hb1 hB hs1 hs2 hr h8 hlow hc0 hX hm
  go_enter Tryd.func52, Tryd.ntmps52
  go_upto_region 1 with fail
  generalize (w.alloc (.cells #[.int .u8 0, .int .i64 0, .slice none 0 0] 92)) = W at HLo HB HW hc1 ⊢
  obtain ⟨N, hN⟩ : ∃ N, w.heap.size = N := ⟨_, rfl⟩
  rw [hN] at HB HW ⊢
  have HN := Lib.hid hN
  clear hN
  obtain ⟨k0, k1, k2⟩ := HB.out.cells
  obtain ⟨f0, f1, f2⟩ := HB.out.free
  have hl2 := hl
  obtain ⟨z, hz⟩ : ∃ z, IntKind.i64.wrap (x : Int) = z := ⟨_, rfl⟩
  go_quiet ((go_at_call 61; exact Calls.quiet_of_same ((HLo.out _ ((Below.refl _ _).drewN' _)).mono fun _ _ hh => ⟨hh.1, hh.2.symm⟩)))
  have HBd : Hid (Box3 (W.drewN nq) N 92 (.int .u8 0) (.int .i64 0) (.slice none 0 0)) := HB
  have HWd : Hid (Below N w (W.drewN nq)) := Lib.hid (HW.out.drewN' nq)
  clear HLo hc1 k0 k1 k2 f0 f1 f2 HB HW
  generalize W.drewN nq = W2 at HBd HWd ⊢
  obtain ⟨k0, k1, k2⟩ := HBd.out.cells
  obtain ⟨f0, f1, f2⟩ := HBd.out.free
  clear hl hl2 hm8
  by_cases hmk : m = 1 ∨ m = 2
  · by_cases hin : 1 ≤ x ∧ x ≤ maxNum
    · have HP : Hid (pcOf b = ⟨m, x, b.drop 9⟩) := Lib.hid (by rw [HE.out, if_pos ⟨hmk, hin⟩])
      have hzx : z = (x : Int) := by rw [← hz, IntKind.wrap_i64]; unfold maxNum at hin; omega
      have h1 : True → decide ((x : Int) < 1) = false := fun _ => by simp; omega
      have h2 : True → decide (4611686018427387904 < (x : Int)) = false := fun _ => by unfold maxNum at hin; simp; omega
      have hmz : ¬ m = 0 := by omega
      subst hzx
      have HMz := Lib.hid hmz
      clear hin hz hx8 HE hmz
      rcases hmk with rfl | rfl
      · go_wp2
        refine bodyPost_ret (retPc rfl rfl (HBd.out.set _ _ _)) rfl ?_
        exact ⟨by rw [HP.out]; rfl, by rw [HN.out]; exact below3 HWd.out (Nat.le_refl _) _ _ _⟩
      · go_wp2
        refine bodyPost_ret (retPc rfl rfl (HBd.out.set _ _ _)) rfl ?_
        exact ⟨by rw [HP.out]; rfl, by rw [HN.out]; exact below3 HWd.out (Nat.le_refl _) _ _ _⟩
    · have HP : Hid (pcOf b = ⟨0, 0, []⟩) := Lib.hid (by rw [HE.out, if_neg (fun hh => hin hh.2)])
      have hzz := wrap_big x hx8 hin
      rw [hz] at hzz
      clear hin hz hx8 HE
      rcases hzz with hz1 | ⟨hz1, hz2⟩
      · have h1 : True → decide (z < 1) = true := fun _ => by simpa using hz1
        clear hz1
        rcases hmk with rfl | rfl
        · go_wp2
          refine bodyPost_ret (retPc rfl rfl (HBd.out.set _ _ _)) rfl ?_
          exact ⟨by rw [HP.out]; rfl, by rw [HN.out]; exact below3 HWd.out (Nat.le_refl _) _ _ _⟩
        · go_wp2
          refine bodyPost_ret (retPc rfl rfl (HBd.out.set _ _ _)) rfl ?_
          exact ⟨by rw [HP.out]; rfl, by rw [HN.out]; exact below3 HWd.out (Nat.le_refl _) _ _ _⟩
      · have h1 : True → decide (z < 1) = false := fun _ => by simpa using hz1
        have h2 : True → decide (4611686018427387904 < z) = true := fun _ => by simpa using hz2
        clear hz1 hz2
        rcases hmk with rfl | rfl
        · go_wp2
          refine bodyPost_ret (retPc rfl rfl (HBd.out.set _ _ _)) rfl ?_
          exact ⟨by rw [HP.out]; rfl, by rw [HN.out]; exact below3 HWd.out (Nat.le_refl _) _ _ _⟩
        · go_wp2
          refine bodyPost_ret (retPc rfl rfl (HBd.out.set _ _ _)) rfl ?_
          exact ⟨by rw [HP.out]; rfl, by rw [HN.out]; exact below3 HWd.out (Nat.le_refl _) _ _ _⟩
  · have HP : Hid (pcOf b = ⟨0, 0, []⟩) := Lib.hid (by rw [HE.out, if_neg (fun hh => hmk hh.1)])
    have n1 : True → ((m : Int) != 1) = true := fun _ => by rw [bne_iff_ne]; omega
    have n2 : True → ((m : Int) != 2) = true := fun _ => by rw [bne_iff_ne]; omega
    clear hmk hz hx8 HE
    go_wp2
    refine bodyPost_ret (retPc rfl rfl (HBd.out.set _ _ _)) rfl ?_
    exact ⟨by rw [HP.out]; rfl, by rw [HN.out]; exact below3 HWd.out (Nat.le_refl _) _ _ _⟩

end Go.Proofs.YtkhghkklekjdaaaDoor.journal
