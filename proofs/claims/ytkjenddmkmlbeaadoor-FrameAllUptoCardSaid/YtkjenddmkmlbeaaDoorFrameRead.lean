/- The walks of the reader: a frame taken; Open. -/
import Derived.Test.YtkjenddmkmlbeaaDoorRows
import Derived.Test.YtkjenddmkmlbeaaDoorFrameOpen
import Derived.Deep.QuietTactic
import Derived.Deep.RegionHeld3
namespace Go.Proofs.YtkjenddmkmlbeaaDoor.frame
open Go.RowKit
open Go.Proofs.YtkjenddmkmlbeaaDoor.kit Go.Proofs.YtkjenddmkmlbeaaDoor.own Go.Proofs.YtkjenddmkmlbeaaDoor.fm
set_option linter.unusedVariables false

theorem flip' {P : Program} {f : FuncId} {args : Array Value} {w : World} {x : Ending} (h : Calls P f args w fun e w' => e = x ∧ w = w') : Calls P f args w fun e w' => e = x ∧ w' = w := h.mono fun _ _ ⟨a, b⟩ => ⟨a, b.symm⟩

/-- The slice lies in a block below B, where it holds anything. -/
def BlkLt (v : Value) (B : Nat) : Prop := ∀ b off n c, v = .slice (some ⟨b, off, none⟩) n c → 0 < n → b < B
theorem Bts.blk {w : World} {v : Value} {l : List Nat} (h : Bts w v l) : BlkLt v w.heap.size := by
  intro b off n c e h0
  subst e
  have h1 := SlI.cells h.1 0 h0
  exact cell_lt (a := ⟨b, off + 0, none⟩) h1
/-- What the reader has left, and how much it has taken. -/
def Rd (B : Nat) (w : World) (rb : Nat) (l : List Nat) (t : Nat) : Prop := ∃ v, RdAt w rb v t ∧ Bts w v l ∧ BlkLt v B

/-- What 'frame' says. -/
def FrP (B : Nat) (w : World) (rb : Nat) (l : List Nat) (t : Nat) (e : Ending) (w' : World) : Prop :=
  match openP l with
  | .error er => e = .returned (.tuple #[.int .u8 0, .slice none 0 0, .int .i64 er]) ∧ ∃ n, w' = w.drewN n
  | .ok (kind, body, N) => (∃ a c, e = .returned (.tuple #[.int .u8 kind, .slice (some a) body.length c, .int .i64 0]) ∧ Bts w' (.slice (some a) body.length c) body) ∧ Rd B w' rb (l.drop N) (t + N) ∧ w.grownBy w' (some rb)

/-- Bytes stay where the reader alone turns. -/
theorem Bts.turn {w w' : World} {rb t : Nat} {v : Value} {ns : List Nat} {a : Option Addr} {n c : Nat} (h : Bts w v ns) (hr : RdAt w rb (.slice a n c) t) (hg : w.grownBy w' (some rb)) : Bts w' v ns := by
  refine ⟨?_, h.2⟩
  obtain ⟨hl, a, cap, rfl, hc⟩ := h.1
  refine ⟨hl, a, cap, rfl, fun h0 => ?_⟩
  obtain ⟨b, off, rfl, hcell⟩ := hc h0
  refine ⟨b, off, rfl, fun j hj => ?_⟩
  have h1 := hcell j hj
  have hb : b ≠ rb := by
    intro e
    subst e
    unfold RdAt at hr
    simp only [World.cell?, hr] at h1
    rcases Nat.lt_or_ge (off + j) 2 with g | g
    · rcases Nat.lt_or_ge (off + j) 1 with g1 | g1
      · have e0 : off + j = 0 := by omega
        simp [e0] at h1
      · have e0 : off + j = 1 := by omega
        simp [e0] at h1
    · simp [show ¬ off + j < 2 by omega] at h1
  have hlt : b < w.heap.size := cell_lt (a := ⟨b, off + j, none⟩) h1
  exact (World.cell?_of_block (a := ⟨b, _, none⟩) (hg.block b hlt (by simpa using hb))).trans h1

theorem RdAt.set {w : World} {rb t : Nat} {v : Value} (h : RdAt w rb v t) (nq : Nat) (v' : Value) (z : Int) (t' : Nat) (hz : z = (t' : Int)) : RdAt (((w.drewN nq).setCell ⟨rb, 0, none⟩ v').setCell ⟨rb, 1, none⟩ (.int .i64 z)) rb v' t' ∧ w.grownBy (((w.drewN nq).setCell ⟨rb, 0, none⟩ v').setCell ⟨rb, 1, none⟩ (.int .i64 z)) (some rb) := by
  subst hz
  unfold RdAt at h ⊢
  have hd : (w.drewN nq).heap[rb]? = some (.cells #[v, .int .i64 t] 52 (0, 0)) := h
  refine ⟨?_, rfl, rfl, rfl, ?_, fun k _ hk => ?_⟩
  · simp [World.setCell, Array.getElem?_modify]
    exact ⟨_, h, by simp⟩
  · have h1 := (KeepsWalks.setCell (w.drewN nq) ⟨rb, 0, none⟩ v').size
    have h2 := (KeepsWalks.setCell ((w.drewN nq).setCell ⟨rb, 0, none⟩ v') ⟨rb, 1, none⟩ (.int .i64 (t' : Int))).size
    exact Nat.le_trans h1 h2
  · have hk' : k ≠ rb := fun e => hk (by rw [e])
    have h1 := Below.heap_setCell (w.drewN nq) ⟨rb, 0, none⟩ v' k hk'
    have h2 := Below.heap_setCell ((w.drewN nq).setCell ⟨rb, 0, none⟩ v') ⟨rb, 1, none⟩ (.int .i64 (t' : Int)) k hk'
    exact h2.trans h1

theorem fr_close {w : World} {B nq rb t b off cap E kd : Nat} {l : List Nat} (hbB : b < B) (hv : Bts w (.slice (some ⟨b, off, none⟩) l.length cap) l) (hr : RdAt w rb (.slice (some ⟨b, off, none⟩) l.length cap) t)
    (hg : openP l = .ok (kd, sub l 5 (E + 4 - 9), E + 4)) (hL : E + 4 ≤ l.length) (h5 : 5 ≤ E) {L : Nat} (hLL : l.length = L) (b' o' c5 cr : Nat) (ha : E + 4 < l.length → (⟨b', o', none⟩ : Addr) = ⟨b, off + (E + 4), none⟩) (hc5 : E - 5 ≤ c5) (hcr : L - (E + 4) ≤ cr) :
    FrP B w rb l t (.returned (.tuple #[.int .u8 (kd : Int), .slice (some ⟨b, off + 5, none⟩) (E - 5) c5, .int .i64 0])) (((w.drewN nq).setCell ⟨rb, 0, none⟩ (.slice (some ⟨b', o', none⟩) (L - (E + 4)) cr)).setCell ⟨rb, 1, none⟩ (.int .i64 ((t : Int) + ((E : Int) + 4)))) := by
  subst hLL
  obtain ⟨h1, h2⟩ := hr.set nq (.slice (some ⟨b', o', none⟩) (l.length - (E + 4)) cr) ((t : Int) + ((E : Int) + 4)) (t + (E + 4)) (by omega)
  unfold FrP
  rw [hg]
  have hbody : SlI w .u8 (.slice (some ⟨b, off + 5, none⟩) (E - 5) c5) (sub l 5 (E + 4 - 9)) := by
    have := sub_read (lo := 5) (hi := E) (a' := some ⟨b, off + 5, none⟩) (cap' := c5) hv.1 (by omega) (by omega) (fun _ b off e => by cases e; rfl)
    unfold sub
    rw [show 5 + (E + 4 - 9) = E by omega]
    exact this
  have hrest : SlI w .u8 (.slice (some ⟨b', o', none⟩) (l.length - (E + 4)) cr) (l.drop (E + 4)) := by
    have := sub_read (lo := E + 4) (hi := l.length) (a' := some ⟨b', o', none⟩) (cap' := cr) hv.1 hL (Nat.le_refl _) (fun h b off e => by cases e; rw [ha h])
    rw [List.take_length] at this
    exact this
  have e1 : (sub l 5 (E + 4 - 9)).length = E - 5 := by rw [sub_len l 5 _ (by omega)]; omega
  refine ⟨⟨⟨b, off + 5, none⟩, c5, by rw [e1], ?_⟩, ⟨_, h1, ?_, fun b1 o1 n1 c1 e h0 => ?_⟩, h2⟩
  · rw [e1]
    exact Bts.turn ⟨hbody, sub_lt _ _ _ hv.2.1, fun n c e => (by cases e), fun a n c e => (by cases e; exact hc5)⟩ hr h2
  · exact Bts.turn ⟨hrest, fun n hn => hv.2.1 n (List.mem_of_mem_drop hn), fun n c e => (by cases e), fun a n c e => (by cases e; exact hcr)⟩ hr h2
  · have h3 : E + 4 < l.length := by cases e; omega
    have h4 := ha h3
    cases e
    injection h4 with h5 h6 h7
    omega

set_option maxHeartbeats 4000000 in
set_option maxRecDepth 100000 in
theorem frame_any (B : Nat) (rb : Nat) (l : List Nat) (t : Nat) (w : World) (hr : Rd B w rb l t) (hn : Nib w) (ht : t + l.length ≤ 4611686018427387904) :
    Calls Tryd.prog 20 #[.pointer (some ⟨rb, 0, none⟩)] w (FrP B w rb l t) := by
  obtain ⟨v, hr, hv, hbl⟩ := hr
  have HBl := Lib.hid hbl
  clear hbl
  have HSize := Lib.hid (size_any rb l v t w hv hr)
  obtain ⟨hl, a, cap, rfl, hc⟩ := id hv.1
  have HV := Lib.hid hv; have HR := Lib.hid hr; have HC := Lib.hid hc; have HN := Lib.hid hn
  clear hv hr hc hn
  go_enter Tryd.func20, Tryd.ntmps20
  cases hs : sizeP l with
  | error er =>
    have HO := Lib.hid (open_err hs)
    have hne : True → ((er : Int) != 0) = true := fun _ => by
      rw [bne_iff_ne]
      rcases size_err hs with h | h <;> omega
    rw [hs] at HSize
    clear hs
    go_wp2_with fail
    refine HSize.out.mono ?_
    rintro e w' ⟨rfl, rfl⟩
    unfold SizeE
    go_wp2
    go_ret3
    unfold FrP
    rw [HO.out]
    exact ⟨rfl, 0, rfl⟩
  | ok N =>
    obtain ⟨h9, hNL, hNm, -, -⟩ := size_facts hs
    obtain ⟨b, off, rfl, hcell⟩ := HC.out (by omega)
    have hcap := HV.out.2.2.2 _ _ _ rfl
    obtain ⟨E, rfl⟩ : ∃ E, N = E + 4 := ⟨N - 4, by omega⟩
    have hsum : SlI w .u8 (.slice (some ⟨b, off + 1, none⟩) (E - 1) (cap - 1)) (sub l 1 (E + 4 - 5)) := by
      have := sub_read (lo := 1) (hi := E) (a' := some ⟨b, off + 1, none⟩) (cap' := cap - 1) HV.out.1 (by omega) (by omega) (fun _ b off e => by cases e; rfl)
      unfold sub
      rw [show 1 + (E + 4 - 5) = E by omega]
      exact this
    have HSum := Lib.hid hsum
    have HS8 := Lib.hid (sub_lt l 1 (E + 4 - 5) HV.out.2.1)
    have HLow : Hid (∀ W, Bts W (.slice (some ⟨b, off, none⟩) l.length cap) l → Calls Tryd.prog 25 #[.slice (some ⟨b, off, none⟩) l.length cap, .int .i64 E, .int .i64 4] W fun e w' => e = .returned (.int .u32 (val (sub l E 4))) ∧ W = w') :=
      fun W hW => low_any l _ E 4 W hW (by omega) (by omega) (by omega)
    have HGood := Lib.hid (open_good hs); have HBad := Lib.hid (open_bad hs)
    have hc1 := hcell 1 (by omega)
    have HCrc := Lib.hid (crc_lt (sub l 1 (E + 4 - 5)))
    rw [show E + 4 - 4 = E by omega] at HGood HBad
    rw [hs] at HSize
    clear hs hsum hcell
    have c0 := HR.out.c0; have c1 := HR.out.c1
    have f0 := HR.out.f 0; have f1 := HR.out.f 1
    obtain ⟨X, hX⟩ : ∃ X, crc (sub l 1 (E + 4 - 5)) = X := ⟨_, rfl⟩
    obtain ⟨Y, hY⟩ : ∃ Y, val (sub l E 4) = Y := ⟨_, rfl⟩
    have HSm : Hid (∀ n, Calls Tryd.prog 9 #[.slice (some ⟨b, off + 1, none⟩) (E - 1) (cap - 1)] (w.drewN n) fun e w' => e = .returned (.int .u32 X) ∧ w' = w.drewN n) := fun n => by
      rw [← hX]; exact flip' (Sum_any _ _ (w.drewN n) HSum.out HS8.out HN.out)
    have HLw : Hid (∀ n, Calls Tryd.prog 25 #[.slice (some ⟨b, off, none⟩) l.length cap, .int .i64 E, .int .i64 4] (w.drewN n) fun e w' => e = .returned (.int .u32 Y) ∧ w' = w.drewN n) := fun n => by
      rw [← hY]; exact flip' (HLow.out (w.drewN n) HV.out)
    rw [hX, hY] at HGood HBad
    clear HLow HSum HS8 HCrc hX hY
    obtain ⟨L, hL⟩ : ∃ L, l.length = L := ⟨_, rfl⟩
    rw [hL] at HLw c0 hl hNL hcap
    have HL := Lib.hid hL
    clear hL
    have hE1 : (1 : Int) ≤ E := by omega
    have hEc : (E : Int) ≤ cap := by omega
    have hc1' : (cap : Int) ≠ 1 := by omega
    have hc5 : (cap : Int) ≠ 5 := by omega
    go_wp2_with fail
    refine HSize.out.mono ?_
    rintro e w' ⟨rfl, rfl⟩
    unfold SizeE
    have HT := Lib.hid ht
    clear HSize ht hl
    generalize l.getD 1 0 = kd at hc1 HGood
    by_cases hXY : X = Y
    · have HG := Lib.hid (HGood.out hXY)
      have hne : ((X : Int) != (Y : Int)) = false := by rw [hXY]; simp
      clear HGood HBad hXY HN
      go_upto_region 5 with fail
      go_quiet ((first | (go_at_call 9; exact Calls.quiet_of_same (HSm.out _)) | (go_at_call 25; exact Calls.quiet_of_same (HLw.out _))))
      clear HSm HLw
      go_upto_region 7 with fail
      go_quiet (fail)
      have ht' : t + (E + 4) ≤ 4611686018427387904 := by have := HT.out; have := HL.out; omega
      go_wp2
      · rename_i hcc
        go_ret3
        exact fr_close (HBl.out _ _ _ _ rfl (by have := HL.out; omega)) HV.out HR.out HG.out (by have := HL.out; omega) (by omega) HL.out b off _ _ (fun h => by have := HL.out; omega) (by omega) (by omega)
      · go_ret3
        exact fr_close (HBl.out _ _ _ _ rfl (by have := HL.out; omega)) HV.out HR.out HG.out (by have := HL.out; omega) (by omega) HL.out b (off + (E + 4)) _ _ (fun h => rfl) (by omega) (by omega)
    · have HB := Lib.hid (HBad.out hXY)
      have hne : ((X : Int) != (Y : Int)) = true := by rw [bne_iff_ne]; omega
      clear HGood HBad hXY HN
      go_upto_region 5 with fail
      go_quiet ((first | (go_at_call 9; exact Calls.quiet_of_same (HSm.out _)) | (go_at_call 25; exact Calls.quiet_of_same (HLw.out _))))
      clear HSm HLw
      go_wp2
      go_ret3
      unfold FrP
      rw [HB.out]
      exact ⟨rfl, _, rfl⟩

/-- What makes a slice of the call's own says. -/
def Makes (w : World) (ns : List Nat) (e : Ending) (w' : World) : Prop := (∃ v', e = .returned v' ∧ OwnI w' w.heap.size 5 .u8 v' ns) ∧ Below w.heap.size w w'

set_option maxHeartbeats 4000000 in
set_option maxRecDepth 100000 in
theorem Clone_any (a : Addr) (c : Nat) (ns : List Nat) (w : World) (hv : Bts w (.slice (some a) ns.length c) ns) (hlen : ns.length ≤ 140737488351232) :
    Calls Tryd.prog 21 #[.slice (some a) ns.length c] w (Makes w ns) := by
  have HV := Lib.hid hv
  obtain ⟨L, hL⟩ : ∃ L, ns.length = L := ⟨_, rfl⟩
  have HL := Lib.hid hL
  rw [hL] at HV hlen ⊢
  clear hv hL
  have hnil := fun w => Lib.run_eql_slice_nil (P := Tryd.prog) w 22 5 (some a) L c 0 0 Tryd.underlying22
  go_enter Tryd.func21, Tryd.ntmps21
  have HB1 := Lib.hid ((Below.refl w.heap.size w).alloc (Nat.le_refl _) (.cells #[] 5))
  go_wp2_with (at_builtin; refine appS rfl (.tmp 5) (.tmp 6) 22 rfl w.heap.size 5 .u8 1 Tryd.underlying22 infoByte _ [] rfl (own_empty w _ _) _ ns rfl (HV.out.1.keep HB1.out) (fun n c e => by cases e) ?_ ?_ HB1.out.size ?_)
  case refine_1 => have := HL.out; simp [maxLen]; omega
  case refine_2 => have := HL.out; simp; omega
  case refine_3 =>
    intro v' w' ho hk
    have HO : Hid (OwnI w' w.heap.size 5 .u8 v' ns) := ho
    have HK := Lib.hid (HB1.out.trans hk.toBelow)
    clear ho hk hnil
    go_wp2
    go_ret
    exact ⟨⟨v', rfl, HO.out⟩, HK.out⟩

theorem OwnI.base {w : World} {B B' e : Nat} {k : IntKind} {v : Value} {ns : List Nat} (h : OwnI w B e k v ns) (hB : B' ≤ B) : OwnI w B' e k v ns := by
  obtain ⟨h1, h2⟩ := id h
  refine ⟨h1, ?_⟩
  rcases h2 with ⟨rfl, h0⟩ | ⟨g, cap, cur, rfl, hB2, hr⟩
  · exact .inl ⟨rfl, h0⟩
  · exact .inr ⟨g, cap, cur, rfl, Nat.le_trans hB hB2, hr⟩

/-- What Open says. -/
def OpenP (w : World) (l : List Nat) (e : Ending) (w' : World) : Prop :=
  Below w.heap.size w w' ∧
  match openP l with
  | .error er => e = .returned (.tuple #[.int .u8 0, .slice none 0 0, .int .i64 0, .int .i64 er])
  | .ok (kind, body, N) => ∃ v, e = .returned (.tuple #[.int .u8 kind, v, .int .i64 N, .int .i64 0]) ∧ OwnI w' w.heap.size 5 .u8 v body

theorem open_err_ne {l : List Nat} {e : Int} (h : openP l = .error e) : e ≠ 0 := by
  unfold openP at h
  split at h
  · rename_i e' h'
    injection h with h
    rcases size_err h' with g | g <;> omega
  · split at h
    · cases h
    · injection h with h; omega
theorem open_len {l : List Nat} {k N : Nat} {bd : List Nat} (h : openP l = .ok (k, bd, N)) : bd.length ≤ 1048575 ∧ N ≤ l.length ∧ 9 ≤ N ∧ N = bd.length + 9 := by
  unfold openP at h
  split at h
  · cases h
  · rename_i n hs
    obtain ⟨h1, h2, h3, _, _⟩ := size_facts hs
    split at h
    · injection h with h
      obtain ⟨rfl, rfl, rfl⟩ : _ ∧ _ ∧ _ := ⟨congrArg (·.1) h, congrArg (·.2.1) h, congrArg (·.2.2) h⟩
      have := sub_len l 5 (n - 9) (by omega)
      simp only at *
      omega
    · cases h

set_option maxHeartbeats 4000000 in
set_option maxRecDepth 100000 in
theorem Open_any (v : Value) (l : List Nat) (w : World) (hv : Bts w v l) (hn : Nib w) (hlen : l.length ≤ 140737488355328) :
    Calls Tryd.prog 11 #[v] w (OpenP w l) := by
  obtain ⟨hl, a, cap, rfl, hc⟩ := id hv.1
  have HV := Lib.hid hv; have HN := Lib.hid hn
  have HB1 := Lib.hid ((Below.refl w.heap.size w).alloc (Nat.le_refl _) (.cells #[.slice a l.length cap, .int .i64 0] 52))
  have HRd : Hid (Rd w.heap.size (w.alloc (.cells #[.slice a l.length cap, .int .i64 0] 52)) w.heap.size l 0) := by
    refine ⟨_, ?_, hv.keep HB1.out, hv.blk⟩
    unfold RdAt
    rw [alloc_at]; rfl
  have HLn := Lib.hid hlen
  clear hc hv hn hlen
  go_enter Tryd.func11, Tryd.ntmps11
  go_wp2_with fail
  generalize w.alloc (.cells #[.slice a l.length cap, .int .i64 0] 52) = W1 at HB1 HRd ⊢
  refine (frame_any w.heap.size w.heap.size l 0 W1 HRd.out (HN.out.keep HB1.out) (by have := HLn.out; omega)).mono ?_
  rintro e W2 h
  unfold FrP at h
  cases ho : openP l with
  | error er =>
    rw [ho] at h
    simp only at h
    obtain ⟨rfl, nq, rfl⟩ := h
    have hne : ((er : Int) != 0) = true := by rw [bne_iff_ne]; exact open_err_ne ho
    have HO := Lib.hid ho
    clear ho
    go_wp2
    refine bodyPost_ret (v := .tuple #[.int .u8 0, .slice none 0 0, .int .i64 0, .int .i64 er]) (by simp [results, Tryd.results11, go_sem]) rfl ?_
    unfold OpenP
    rw [HO.out]
    exact ⟨HB1.out.drewN' _, rfl⟩
  | ok x =>
    obtain ⟨kd, bd, N⟩ := x
    rw [ho] at h
    simp only at h
    obtain ⟨⟨a', c', rfl, hbd⟩, hrd, hg⟩ := h
    obtain ⟨hbl, hN, hN9, -⟩ := open_len ho
    have hrl := hg.size
    have HO := Lib.hid ho
    obtain ⟨v2, hr2, _, _⟩ := hrd
    have c1 := hr2.c1
    have HBd := Lib.hid hbd
    have HB2 : Hid (Below w.heap.size w W2) := ⟨hg.os.trans HB1.out.os, hg.tape.trans HB1.out.tape, hg.output.trans HB1.out.output, Nat.le_trans HB1.out.size hg.size, fun k hk => (hg.block k (Nat.lt_of_lt_of_le hk HB1.out.size) (by simp; omega)).trans (HB1.out.block k hk)⟩
    clear hbd hg ho HRd HB1
    go_upto_region 5 with fail
    have hrlt : w.heap.size < W2.heap.size := hr2.lt
    rw [Nat.zero_add] at c1
    clear hr2 hrl
    go_region_held3 (fun w' => Below W2.heap.size W2 w' ∧ w'.cell? ⟨w.heap.size, 1, none⟩ = some (.int .i64 (N : Nat)))
      (first | exact ⟨⟨rfl, rfl, rfl, Nat.le_refl _, fun _ _ => rfl⟩, c1⟩ | exact ⟨⟨hb3.os, hb3.tape, hb3.output, hb3.size, hb3.block⟩, (hb3.cell (p := ⟨_, 1, none⟩) hrlt).trans c1⟩)
      (first | (go_at_call 21; refine (Clone_any a' c' bd W2.drew HBd.out (by omega)).mono ?_; rintro e w3 ⟨⟨v3, rfl, ho3⟩, hb3⟩))
    have HO3 := Lib.hid (OwnI.base ho3 (Nat.le_of_lt hrlt))
    have HB3 := Lib.hid (HB2.out.trans (show Below w.heap.size W2 w3 from ⟨hb3.os, hb3.tape, hb3.output, hb3.size, fun k hk => hb3.block k (Nat.lt_trans hk hrlt)⟩))
    clear hb3 ho3
    go_wp2
    refine bodyPost_ret (v := .tuple #[.int .u8 kd, v3, .int .i64 N, .int .i64 0]) (by simp [results, Tryd.results11, go_sem]) rfl ?_
    unfold OpenP
    rw [HO.out]
    exact ⟨HB3.out, v3, rfl, HO3.out⟩

end Go.Proofs.YtkjenddmkmlbeaaDoor.frame
