/- The records that stand in a row. -/
import Derived.Test.YtkhghkklekjdaaaDoorRows
import Derived.Test.YtkhghkklekjdaaaDoorJournalSY
import Derived.Test.YtkhghkklekjdaaaDoorJournalFence
import Derived.Shelf.RegionOpen
namespace Go.Proofs.YtkhghkklekjdaaaDoor.journal
open Go.RowKit
open Go.Proofs.YtkhghkklekjdaaaDoor.kit Go.Proofs.YtkhghkklekjdaaaDoor.own Go.Proofs.YtkhghkklekjdaaaDoor.jm Go.Proofs.YtkhghkklekjdaaaDoor.iter
open Go.Proofs.YtkhghkklekjdaaaDoor.frame (Nib)
open Go.Proofs.YtkhghkklekjdaaaDoor.sector (bv ba Dev DevAt strN conv_sl)
set_option linter.unusedVariables false
set_option linter.unusedSimpArgs false
attribute [local go_sem] Oper.semAt_some

theorem five_alloc (w : World) (o0 o1 o2 o3 : Obj) :
    ((((w.alloc o0).alloc o1).alloc o2).alloc o3).heap.size = w.heap.size + 4 ∧
    ((((w.alloc o0).alloc o1).alloc o2).alloc o3).heap[w.heap.size]? = some o0 ∧
    ((((w.alloc o0).alloc o1).alloc o2).alloc o3).heap[w.heap.size + 1]? = some o1 ∧
    ((((w.alloc o0).alloc o1).alloc o2).alloc o3).heap[w.heap.size + 2]? = some o2 ∧
    ((((w.alloc o0).alloc o1).alloc o2).alloc o3).heap[w.heap.size + 3]? = some o3 ∧
    Below w.heap.size w ((((w.alloc o0).alloc o1).alloc o2).alloc o3) := by
  refine ⟨by simp, ?_, ?_, ?_, ?_, ?_⟩
  · simp only [alloc_heap, Array.getElem?_push, Array.size_push]; simp; repeat rw [if_neg (by omega)]
  · simp only [alloc_heap, Array.getElem?_push, Array.size_push]; simp
  · simp only [alloc_heap, Array.getElem?_push, Array.size_push]; simp
  · simp only [alloc_heap, Array.getElem?_push, Array.size_push]; simp
  · exact ((((Below.refl _ w).alloc (Nat.le_refl _) _).alloc (by simp) _).alloc (by simp; omega) _).alloc (by simp; omega) _

/-- What 'stand' tells. -/
def StandS (w : World) (first : Nat) (ps : List Pc) (e : Ending) (w' : World) : Prop :=
  (∃ v, e = .returned (.tuple #[v, .int .i64 ((standF first ps).2 : Nat)]) ∧ OwnT w' w.heap.size v ((standF first ps).1.map strN)) ∧ Below w.heap.size w w'

theorem runR_go {s : Rd} {p : Pc} (ps : List Pc) {s' : Rd} (h : stepR s p = (s', true)) : runR s (p :: ps) = runR s' ps := by
  simp only [runR, h]; simp
theorem runR_stop {s : Rd} {p : Pc} (ps : List Pc) {s' : Rd} (h : stepR s p = (s', false)) : runR s (p :: ps) = s' := by
  simp only [runR, h]; simp
theorem pcsOf_drop (m : Dev) (from_ n i : Nat) (h : i < n) : (pcsOf m from_ n).drop i = pcOf (sector.look m (from_ + i)) :: (pcsOf m from_ n).drop (i + 1) := by
  have hl : i < (pcsOf m from_ n).length := by rw [pcsOf_len]; exact h
  rw [List.drop_eq_getElem_cons hl]
  have := pcsOf_at m from_ n i h
  rw [List.getElem?_eq_getElem hl] at this
  rw [Option.some.inj this]

/-- What the variables hold at a break: the answer's two are the run's. -/
def SX (N : Nat) (w : World) (T : Rd) (W : World) : Prop := ∃ i s, SB N w i s W ∧ s.l = T.l ∧ s.taken = T.taken

theorem SlI.putObj {w : World} {k : IntKind} {v : Value} {ns : List Nat} (h : SlI w k v ns) {l : Nat} {r : Loop} (hl : w.heap[l]? = some (.loop r)) (o : Obj) : SlI (w.putObj l o) k v ns := by
  refine h.same fun a ha => ?_
  have hne : a.block ≠ l := fun e => ha (by unfold World.cell?; rw [e, hl])
  exact World.cell?_of_block (World.putObj_heap_other hne)
theorem rest_read {W : World} {g : Nat} {b : List Nat} (hr : W.rangeAt g 0 (bv b)) (hl : b.length = 64) (hmk : (pcOf b).mark ≠ 0) : SlI W .u8 (.slice (some ⟨g, 9, none⟩) 55 55) (pcOf b).rest := by
  have he : (pcOf b).rest = b.drop 9 := by
    unfold pcOf at hmk ⊢
    split at hmk
    · next h => rw [if_pos h]
    · exact absurd rfl hmk
  have hlen : (b.drop 9).length = 55 := by simp [hl]
  rw [he]
  refine ⟨by omega, some ⟨g, 9, none⟩, 55, by rw [hlen], fun _ => ⟨g, 9, rfl, fun j hj => ?_⟩⟩
  have := hr (9 + j) _ (sector.bv_at b (9 + j) (by omega))
  rw [Nat.zero_add] at this
  rw [this]
  simp [List.getD, Nat.add_comm]
theorem fin_run {s s1 T : Rd} {p : Pc} {ps : List Pc} (h : stepR s p = finR s1) (hr : runR s (p :: ps) = T) : (∀ s2, finR s1 = (s2, true) → runR s2 ps = T) ∧ (∀ s2, finR s1 = (s2, false) → s2 = T) :=
  ⟨fun s2 h2 => by rw [← hr, runR_go ps (h.trans h2)], fun s2 h2 => by rw [← hr, runR_stop ps (h.trans h2)]⟩
theorem SY.brk {N R : Nat} {w : World} {i : Nat} {s T : Rd} {rec : LoopState → Option Code → Loop} {mk nm : Nat} {v3 : Value} {W : World} (h : SY N R w i s (rec .busy none) mk nm v3 W) (h1 : s.l = T.l) (h2 : s.taken = T.taken) :
    W.heap[N + 4 + 1]? = some (.loop (rec .busy none)) ∧ (Code.exit 0 = Code.exit 0 ∧ SX N w T (W.putObj (N + 4 + 1) (.loop (rec .done (some (.exit 0)))))) ∧ Book (W.putObj (N + 4 + 1) (.loop (rec .done (some (.exit 0))))) (N + 4) (rec .done (some (.exit 0))) :=
  ⟨h.hl, ⟨rfl, i, s, h.sb.putObj _ _ (by omega) (by omega), h1, h2⟩, World.putObj_heap_same (Array.getElem?_eq_some_iff.1 h.hl).1, (World.putObj_heap_other (by omega)).trans h.hd⟩
theorem SY.nxt {N R : Nat} {w : World} {i : Nat} {s T : Rd} {ps : List Pc} {rec : LoopState → Option Code → Loop} {mk nm : Nat} {v3 : Value} {W : World} (h : SY N R w (i + 1) s (rec .busy none) mk nm v3 W) (h1 : runR s ps = T) :
    W.heap[N + 4 + 1]? = some (.loop (rec .busy none)) ∧ (∃ s, SB N w (i + 1) s (W.putObj (N + 4 + 1) (.loop (rec .ready none))) ∧ runR s ps = T) ∧ Book (W.putObj (N + 4 + 1) (.loop (rec .ready none))) (N + 4) (rec .ready none) :=
  ⟨h.hl, ⟨s, h.sb.putObj _ _ (by omega) (by omega), h1⟩, World.putObj_heap_same (Array.getElem?_eq_some_iff.1 h.hl).1, (World.putObj_heap_other (by omega)).trans h.hd⟩

set_option maxHeartbeats 16000000 in
set_option maxRecDepth 100000 in
theorem stand_any (w : World) (bl bd : Nat) (Z : Nat → Prop) (d : Nat) (m : Dev) (from_ n first : Nat) (h : RowAt w bl bd Z d m from_ n) (hf : 1 ≤ first ∧ first ≤ maxNum) (hN : Nib w) :
    Calls Tryd.prog 35 #[iterV bl bd, .int .i64 (first : Int)] w (StandS w first (pcsOf m from_ n)) := by
  have HR := Lib.hid h; have HNb := Lib.hid hN; have HF := Lib.hid hf
  have hm := h.at_.1
  have hn4 : n ≤ 4096 := by have := h.fits; have := hm.n; omega
  have e0 : True → IntKind.i64.wrap ((first : Int) - 1) = ((first - 1 : Nat) : Int) := fun _ => by rw [IntKind.wrap_i64]; unfold maxNum at hf; omega
  have e0' : True → wrap64 ((first : Int) - 1) = ((first - 1 : Nat) : Int) := fun _ => by unfold wrap64; unfold maxNum at hf; omega
  clear h hN hf
  unfold iterV
  refine (callsIn_wide (n := 0)).1 ?_
  refine callsIn_of_wp_marks Tryd.func35 rfl trivial ?_ rfl
  simp only [Tryd.ntmps35, List.size_toArray, List.length_cons, List.length_nil, Nat.reduceAdd, Nat.reduceSub, Array.replicate_succ, Array.replicate_zero, List.push_toArray, List.append_toArray, List.nil_append, List.cons_append]
  gi_wp2
  refine wpIn_wide.2 (wp_scope_straight ((wpIn_wide (n := 0)).1 ?_))
  gi_wp2
  refine wpIn_label ?_
  gi_wp2
  obtain ⟨s0, s1, s2, s3, s4, s6⟩ := five_alloc w (.cells #[.slice none 0 0] 30) (.cells #[.int .i64 0, .int .i64 0, .int .u32 0, .slice none 0 0] 90) (.cells #[.int .i64 0] 3) (.cells #[.int .i64 ((first - 1 : Nat) : Int)] 2)
  generalize ((((w.alloc (.cells #[.slice none 0 0] 30)).alloc (.cells #[.int .i64 0, .int .i64 0, .int .u32 0, .slice none 0 0] 90)).alloc (.cells #[.int .i64 0] 3)).alloc (.cells #[.int .i64 ((first - 1 : Nat) : Int)] 2)) = W0 at s0 s1 s2 s3 s4 s6 ⊢
  obtain ⟨N, hN⟩ : ∃ N, w.heap.size = N := ⟨_, rfl⟩
  simp only [hN, Nat.add_assoc, Nat.reduceAdd] at s0 s1 s2 s3 s4 s6 ⊢
  have hsb0 : SB N w 0 (init first) W0 := ⟨s6, ⟨_, s1, OwnT.nil _ _⟩, ⟨_, s2, OwnI.nil ..⟩, s3, s4, ⟨Nat.zero_le _, Nat.zero_lt_succ _, Nat.zero_lt_succ _, Nat.le_refl _, Nat.zero_le _, fun n hn => by simp [init] at hn, Nat.le_refl _, Nat.zero_le _, by have := HF.out; simp only [init]; omega⟩⟩
  have HNn := Lib.hid hN
  clear s1 s2 s3 s4 s6 e0 e0' hN
  have hrow : ∀ W, Below N w W → RowAt W bl bd Z d m from_ n := fun W hW => HR.out.keep (by rw [HNn.out]; exact hW)
  have hnib : ∀ W, Below N w W → Nib W := fun W hW => HNb.out.keep (by rw [HNn.out]; exact hW)
  obtain ⟨T, hT⟩ : ∃ T, runR (init first) (pcsOf m from_ n) = T := ⟨_, rfl⟩
  refine range_stmtX (n := 0) (gf := 50) (lb := #[.pointer (some ⟨bl, 0, none⟩), .pointer (some ⟨bd, 0, none⟩)])
    (I := fun W => SX N w T W) (X := fun c W => c = .exit 0 ∧ SX N w T W)
    rfl (enters_of Tryd.func50 (by kernel_rfl) rfl) ?hit ?hdone ?hstop
  case hit =>
    intro fn rec hrec
    simp only [s0] at hrec ⊢
    refine (pieces1_any (N + 4 + 1) bl bd Z d m from_ n (I := fun k W => (∃ s, SB N w k s W ∧ runR s ((pcsOf m from_ n).drop k) = T) ∧ Book W (N + 4) (rec .ready none)) (X := fun _ W => ∃ c, (c = .exit 0 ∧ SX N w T W) ∧ Book W (N + 4) (rec .done (some c))) HR.out.fits hm.n HR.out.power ?cells ?below ?yield _ ?start).mono ?post
    case cells => exact fun i W h => by obtain ⟨⟨s, hs, _⟩, _⟩ := h; exact (hrow W hs.bel).cells
    case below => 
      rintro i W W' ⟨⟨s, h1, h4⟩, ⟨h2, h3⟩⟩ hb
      exact ⟨⟨s, h1.keep hb, h4⟩, (hb.block _ (Array.getElem?_eq_some_iff.1 h2).1).trans h2, (hb.block _ (Array.getElem?_eq_some_iff.1 h3).1).trans h3⟩
    case start =>
      have b1 : Below W0.heap.size W0 ((W0.alloc (.deferred (some []))).alloc (.loop (rec .ready none))) := ((Below.refl _ W0).alloc (Nat.le_refl _) _).alloc (by simp) _
      refine ⟨⟨init first, hsb0.keep b1, by rw [List.drop_zero]; exact hT⟩, ?_, ?_⟩
      · have := World.alloc_heap_new (W0.alloc (.deferred (some []))) (.loop (rec .ready none))
        rw [World.size_alloc, s0] at this
        exact this
      · simp only [alloc_heap, Array.getElem?_push, Array.size_push, s0]; simp
    case post =>
      rintro e W ⟨hv, (⟨⟨s, h1, h3⟩, h2⟩ | ⟨i, hi, c, h1, h2⟩)⟩
      · refine ⟨hv, .inl ⟨⟨n, s, h1, ?_, ?_⟩, h2⟩⟩
        · rw [List.drop_of_length_le (by rw [pcsOf_len]; omega)] at h3; rw [← h3]; rfl
        · rw [List.drop_of_length_le (by rw [pcsOf_len]; omega)] at h3; rw [← h3]; rfl
      · exact ⟨hv, .inr ⟨c, h1, h2⟩⟩
    case yield =>
      rintro i W g hi ⟨⟨s, hsb, hrun⟩, hbk⟩ hra hgl
      refine yield_roundX hrec (Rt := fun W' => (∃ s, SB N w (i + 1) s W' ∧ runR s ((pcsOf m from_ n).drop (i + 1)) = T) ∧ Book W' (N + 4) (rec .ready none)) (Rx := fun c W' => (c = .exit 0 ∧ SX N w T W') ∧ Book W' (N + 4) (rec .done (some c))) hbk rfl ?_ |>.mono ?_
      · rw [pcsOf_drop m from_ n i hi] at hrun
        have hpo : (pcOf (sector.look m (from_ + i))).Ok := pcOf_ok _ (sector.look_len hm (by have := HR.out.fits; omega)) (look_lt hm (by have := HR.out.fits; omega))
        have hrest : (pcOf (sector.look m (from_ + i))).mark ≠ 0 → SlI W .u8 (.slice (some ⟨g, 9, none⟩) 55 55) (pcOf (sector.look m (from_ + i))).rest := rest_read hra (sector.look_len hm (by have := HR.out.fits; omega))
        obtain ⟨a, l, c, hpv⟩ := PcV_form g (pcOf (sector.look m (from_ + i)))
        have HPv := Lib.hid hpv
        rw [hpv]
        generalize (pcOf (sector.look m (from_ + i))) = p at hrun hpo hrest HPv ⊢
        generalize (pcsOf m from_ n).drop (i + 1) = ps at hrun ⊢
        have HSB := Lib.hid hsb; have HB := Lib.hid hbk; have HRun := Lib.hid hrun; have HPo := Lib.hid hpo; have HRe := Lib.hid hrest
        obtain ⟨mk, nm, rs⟩ := p
        simp only at HRe HPv ⊢
        clear hrec hsb hbk hrun hpo hrest hpv hsb0 hrow hT hra hgl
        gi_wp2
        have b2 := below_new' W (.cells #[.int .u8 (mk : Int), .int .i64 (nm : Int), .slice a l c] 92)
        have hlt := HSB.out.lt
        have hl6 := (Array.getElem?_eq_some_iff.1 HB.out.1).1
        have hk1 := (b2.block _ hl6).trans HB.out.1
        have hk2 := (b2.block _ (Array.getElem?_eq_some_iff.1 HB.out.2).1).trans HB.out.2
        refine ⟨hk1, ?_⟩
        have hg3 := (HSB.out.keep b2).putObj (N + 4 + 1) (.loop (rec .busy none)) (by omega) (by omega)
        have hl3 := World.putObj_heap_same (o := .loop (rec .busy none)) (Array.getElem?_eq_some_iff.1 hk1).1
        have hd3 : ((W.alloc (.cells #[.int .u8 (mk : Int), .int .i64 (nm : Int), .slice a l c] 92)).putObj (N + 4 + 1) (.loop (rec .busy none))).heap[N + 4]? = some (.deferred (some [])) := (World.putObj_heap_other (by omega)).trans hk2
        have hR : Box3 ((W.alloc (.cells #[.int .u8 (mk : Int), .int .i64 (nm : Int), .slice a l c] 92)).putObj (N + 4 + 1) (.loop (rec .busy none))) W.heap.size 92 (.int .u8 (mk : Int)) (.int .i64 (nm : Int)) (.slice a l c) :=
          (World.putObj_heap_other (by omega)).trans (alloc_at _ _)
        have hre3 : mk ≠ 0 → SlI ((W.alloc (.cells #[.int .u8 (mk : Int), .int .i64 (nm : Int), .slice a l c] 92)).putObj (N + 4 + 1) (.loop (rec .busy none))) .u8 (.slice (some ⟨g, 9, none⟩) 55 55) rs := fun hmk => SlI.putObj ((HRe.out hmk).keep b2) hk1 _
        have hNR : N + 6 ≤ W.heap.size := by omega
        have hsy : SY N W.heap.size w i s (rec .busy none) mk nm (.slice a l c) _ := ⟨hg3, hl3, hd3, hR⟩
        generalize (W.alloc (.cells #[.int .u8 (mk : Int), .int .i64 (nm : Int), .slice a l c] 92)).putObj (N + 4 + 1) (.loop (rec .busy none)) = W3 at hsy hre3 ⊢
        generalize W.heap.size = R at hsy hNR ⊢
        have HS3 := Lib.hid hsy; have HNR := Lib.hid hNR; have HRe3 := Lib.hid hre3; have HNib := Lib.hid hnib
        clear b2 hk1 hk2 hlt hl6 hg3 hl3 hd3 hR HSB HB hsy hNR hre3 HRe hnib
        obtain ⟨vr, hra⟩ := HS3.out.rec_
        have HLk := Lib.hid (lacks_any W3 (N + 6) (N + 1) s.num s.count s.sum s.text vr hra)
        clear hra
        have hi4 : i < 4096 := by omega
        by_cases hA : s.text.length < s.count
        case' pos =>
          rw [decide_eq_true hA] at HLk
          by_cases hp : mk = 2 ∧ nm = s.num
          case neg =>
            have HSt : Hid (runR s (⟨mk, nm, rs⟩ :: ps) = s) := Lib.hid (runR_stop ps (by unfold stepR; rw [if_pos hA, if_pos (by simp only; omega)]))
            have HE := Lib.hid ((congrArg Rd.l HSt.out).symm.trans (congrArg Rd.l HRun.out))
            have HE2 := Lib.hid ((congrArg Rd.taken HSt.out).symm.trans (congrArg Rd.taken HRun.out))
            by_cases h2 : mk = 2
            · have h3 : True → ((nm : Int) != (s.num : Int)) = true := fun _ => by rw [bne_iff_ne]; omega
              subst h2
              clear hp hA HSt
              gi_wp2_with (refine ⟨trivial, rfl, ?_⟩; gi_at_call 46; refine (callsIn_wide.2 HLk.out).mono ?_; rintro e w4 ⟨rfl, q4, rfl⟩; have HS4 : Hid (SY N R w i s (rec .busy none) 2 nm (.slice a l c) (W3.drewN q4)) := Lib.hid (HS3.out.keep ((Below.refl _ _).drewN' q4)); obtain ⟨c0, c1, c2, c3, c4, c5, c6, c7⟩ := HS4.out.cells)
              exact HS4.out.brk HE.out HE2.out
            · have h3 : True → ((mk : Int) != 2) = true := fun _ => by rw [bne_iff_ne]; omega
              clear hp hA HSt h2
              gi_wp2_with (refine ⟨trivial, rfl, ?_⟩; gi_at_call 46; refine (callsIn_wide.2 HLk.out).mono ?_; rintro e w4 ⟨rfl, q4, rfl⟩; have HS4 : Hid (SY N R w i s (rec .busy none) mk nm (.slice a l c) (W3.drewN q4)) := Lib.hid (HS3.out.keep ((Below.refl _ _).drewN' q4)); obtain ⟨c0, c1, c2, c3, c4, c5, c6, c7⟩ := HS4.out.cells)
              exact HS4.out.brk HE.out HE2.out
          obtain ⟨rfl, rfl⟩ := hp
          have hst : stepR s ⟨2, s.num, rs⟩ = finR { s with text := gath s.text s.count rs } := by unfold stepR; rw [if_pos hA, if_neg (by simp)]
          have hmid := mid_ok HS3.out.sb.ok HPo.out hi4 hA
          have HNl := Lib.hid (show s.text.length + 55 ≤ 1000000000 by have := HS3.out.sb.ok.len; omega)
          have htc := HS3.out.sb.ok.text; have hcc := HS3.out.sb.ok.count
          have HTc := Lib.hid htc; have HCc := Lib.hid hcc
          obtain ⟨ha1, hl1, hc1⟩ : a = some ⟨g, 9, none⟩ ∧ l = 55 ∧ c = 55 := by
            have h := HPv.out
            unfold PcV at h
            simp at h
            obtain ⟨h1, h2, h3⟩ := h
            exact ⟨h1.symm, h2.symm, h3.symm⟩
          subst ha1 hl1 hc1
          have HRe4 := Lib.hid (HRe3.out (by decide))
          have hrl : rs.length = 55 := by
            rcases HPo.out.1 with h | h
            · cases h
            · exact h.2.2.2
          obtain ⟨s1, hs1⟩ : ∃ s1, ({ s with text := gath s.text s.count rs } : Rd) = s1 := ⟨_, rfl⟩
          have HMid := Lib.hid hmid; have HSt := Lib.hid hst; have HS1 := Lib.hid hs1; have HRl := Lib.hid hrl
          have HLs : Hid (s1.l.length ≤ i ∧ s1.taken ≤ i * 300000) := Lib.hid (by rw [← hs1]; exact ⟨HS3.out.sb.ok.ls, HS3.out.sb.ok.taken⟩)
          clear hA htc hcc hrl hmid hst hs1 HRe3 HPv
          gi_wp2_with (refine ⟨trivial, rfl, ?_⟩; gi_at_call 46; refine (callsIn_wide.2 HLk.out).mono ?_; rintro e w4 ⟨rfl, q4, rfl⟩; have HS4 : Hid (SY N R w i s (rec .busy none) 2 s.num (.slice (some ⟨g, 9, none⟩) 55 55) (W3.drewN q4)) := Lib.hid (HS3.out.keep ((Below.refl _ _).drewN' q4)); have HRe5 := Lib.hid (HRe4.out.keep ((Below.refl _ _).drewN' q4)); obtain ⟨c0, c1, c2, c3, c4, c5, c6, c7⟩ := HS4.out.cells)
          generalize W3.drewN q4 = W4 at HS4 HRe5 c0 c1 c2 c3 c4 c5 c6 c7 ⊢
          obtain ⟨v4, hra4⟩ := HS4.out.rec_
          have HGa := Lib.hid (gather_any W4 (N + 6) (N + 1) s.num s.count s.sum s.text v4 hra4 HS4.out.size g 9 55 55 rs HRe5.out HRl.out (Nat.le_refl _) HTc.out HCc.out HNl.out)
          clear hra4 c0 c1 c2 c3 c4 c5 c6 c7
          gi_wp2_with (refine ⟨trivial, rfl, ?_⟩; gi_at_call 47; refine (callsIn_wide.2 HGa.out).mono ?_; rintro e w5 ⟨rfl, v5, w6, hk6, rfl, ho6⟩)
          have HS5 := Lib.hid (HS4.out.gath HNR.out hk6 ho6 HMid.out)
          rw [HS1.out] at HS5 HSt
          clear hk6 ho6
          generalize w6.setCell ⟨N + 1, 3, none⟩ v5 = W5 at HS5 ⊢
          have HGo := Lib.hid (fin_run HSt.out HRun.out)
          clear HSt HRun HGa HS4 HLk HRe4 HRe5 HTc HCc HNl HRl HMid HS1 HS3
        case' neg =>
          rw [decide_eq_false hA] at HLk
          by_cases hp : mk = 1 ∧ s.last < nm
          case neg =>
            have HSt : Hid (runR s (⟨mk, nm, rs⟩ :: ps) = s) := Lib.hid (runR_stop ps (by unfold stepR; rw [if_neg hA, if_pos (by simp only; omega)]))
            have HE := Lib.hid ((congrArg Rd.l HSt.out).symm.trans (congrArg Rd.l HRun.out))
            have HE2 := Lib.hid ((congrArg Rd.taken HSt.out).symm.trans (congrArg Rd.taken HRun.out))
            by_cases h2 : mk = 1
            · have h3 : True → decide ((nm : Int) ≤ (s.last : Int)) = true := fun _ => by simp; omega
              have h3' : True → decide (nm ≤ s.last) = true := fun _ => by simp; omega
              subst h2
              clear hp hA HSt
              gi_wp2_with (refine ⟨trivial, rfl, ?_⟩; gi_at_call 46; refine (callsIn_wide.2 HLk.out).mono ?_; rintro e w4 ⟨rfl, q4, rfl⟩; have HS4 : Hid (SY N R w i s (rec .busy none) 1 nm (.slice a l c) (W3.drewN q4)) := Lib.hid (HS3.out.keep ((Below.refl _ _).drewN' q4)); obtain ⟨c0, c1, c2, c3, c4, c5, c6, c7⟩ := HS4.out.cells)
              exact HS4.out.brk HE.out HE2.out
            · have h3 : True → ((mk : Int) != 1) = true := fun _ => by rw [bne_iff_ne]; omega
              clear hp hA HSt h2
              gi_wp2_with (refine ⟨trivial, rfl, ?_⟩; gi_at_call 46; refine (callsIn_wide.2 HLk.out).mono ?_; rintro e w4 ⟨rfl, q4, rfl⟩; have HS4 : Hid (SY N R w i s (rec .busy none) mk nm (.slice a l c) (W3.drewN q4)) := Lib.hid (HS3.out.keep ((Below.refl _ _).drewN' q4)); obtain ⟨c0, c1, c2, c3, c4, c5, c6, c7⟩ := HS4.out.cells)
              exact HS4.out.brk HE.out HE2.out
          obtain ⟨rfl, hlast⟩ := hp
          have hst : stepR s ⟨1, nm, rs⟩ = finR (begunR s ⟨1, nm, rs⟩) := by unfold stepR; rw [if_neg hA, if_neg (by simp only; omega)]
          have hmid := begun_ok HS3.out.sb.ok HPo.out hi4 Nat.one_ne_zero
          have HLast : Hid (decide ((nm : Int) ≤ (s.last : Int)) = false) := Lib.hid (by simp; omega)
          have h3 : True → decide ((nm : Int) ≤ (s.last : Int)) = false := fun _ => HLast.out
          have h3' : True → decide (nm ≤ s.last) = false := fun _ => by simp; omega
          have hbe := HPv.out
          obtain ⟨ha1, hl1, hc1⟩ : a = some ⟨g, 9, none⟩ ∧ l = 55 ∧ c = 55 := by
            have h := HPv.out
            unfold PcV at h
            simp at h
            obtain ⟨h1, h2, h3⟩ := h
            exact ⟨h1.symm, h2.symm, h3.symm⟩
          subst ha1 hl1 hc1
          have HRe4 := Lib.hid (HRe3.out (by decide))
          have hrl : rs.length = 55 := by
            rcases HPo.out.1 with h | h
            · cases h
            · exact h.2.2.2
          have HBe : Hid (∀ u, Below W3.heap.size W3 u → Calls Tryd.prog 48 #[.agg #[.int .u8 1, .int .i64 (nm : Int), .slice (some ⟨g, 9, none⟩) 55 55]] u (BegunS u ⟨1, nm, rs⟩)) := Lib.hid fun u hu => begun_any g ⟨1, nm, rs⟩ u Nat.one_ne_zero hrl HPo.out.2 (HRe4.out.keep hu)
          obtain ⟨s1, hs1⟩ : ∃ s1, begunR s ⟨1, nm, rs⟩ = s1 := ⟨_, rfl⟩
          have HMid := Lib.hid hmid; have HSt := Lib.hid hst; have HS1 := Lib.hid hs1
          have HLs : Hid (s1.l.length ≤ i ∧ s1.taken ≤ i * 300000) := Lib.hid (by rw [← hs1]; exact ⟨HS3.out.sb.ok.ls, HS3.out.sb.ok.taken⟩)
          clear hA hlast hrl hmid hst hs1 HRe3 HPv hbe
          gi_wp2_with (refine ⟨trivial, rfl, ?_⟩; gi_at_call 46; refine (callsIn_wide.2 HLk.out).mono ?_; rintro e w4 ⟨rfl, q4, rfl⟩; have HS4 : Hid (SY N R w i s (rec .busy none) 1 nm (.slice (some ⟨g, 9, none⟩) 55 55) (W3.drewN q4)) := Lib.hid (HS3.out.keep ((Below.refl _ _).drewN' q4)); obtain ⟨c0, c1, c2, c3, c4, c5, c6, c7⟩ := HS4.out.cells)
          refine ⟨trivial, rfl, ?_⟩
          refine (callsIn_wide.2 (HBe.out _ ((Below.refl _ _).drewN' q4))).mono ?_
          rintro e w5 ⟨v5, rfl, ho5, hb5⟩
          obtain ⟨x5, y5, z5, rfl⟩ := own_form ho5
          have HS45 := Lib.hid (HS4.out.keep hb5)
          have HO5 := Lib.hid (show OwnI w5 (N + 6) 5 .u8 (.slice x5 y5 z5) _ from ⟨ho5.1, ho5.2.imp id fun ⟨g, cap, cur, e1, h2, h3⟩ => ⟨g, cap, cur, e1, Nat.le_trans HS4.out.size h2, h3⟩⟩)
          obtain ⟨f0, f1, f2, f3, f4, f5, f6⟩ := HS45.out.free
          obtain ⟨c0', c1', c2', c3', c4', c5', c6', c7'⟩ := HS45.out.cells
          obtain ⟨v6, hrb6, hro6⟩ := HS45.out.sb.r
          obtain ⟨_, _, _, c8'⟩ := hrb6.cells
          clear hb5 ho5 c0 c1 c2 c3 c4 c5 c6 c7 hrb6 hro6
          unfold RecV
          simp only
          gi_wp2
          have HS5 : Hid (SY N R w (i + 1) (begunR s ⟨1, nm, rs⟩) (rec .busy none) 1 nm (.slice (some ⟨g, 9, none⟩) 55 55) _) := Lib.hid (HS45.out.beg HNR.out HO5.out HMid.out)
          rw [HS1.out] at HS5 HSt
          clear f0 f1 f2 f3 f4 f5 f6 c0' c1' c2' c3' c4' c5' c6' c7' c8' HO5
          generalize ((((w5.setCell ⟨N + 1, 0, none⟩ _).setCell ⟨N + 1, 1, none⟩ _).setCell ⟨N + 1, 2, none⟩ _).setCell ⟨N + 1, 3, none⟩ _) = W5 at HS5 ⊢
          have HGo := Lib.hid (fin_run HSt.out HRun.out)
          clear HSt HRun HS4 HLk HRe4 HMid HS1 HS3 HS45
        all_goals
          obtain ⟨vr2, hra2⟩ := HS5.out.rec_
          have HLk2 := Lib.hid (lacks_any W5 (N + 6) (N + 1) s1.num s1.count s1.sum s1.text vr2 hra2)
          clear hra2
          by_cases hL : s1.text.length < s1.count
          · rw [decide_eq_true hL] at HLk2
            have HSt2 := Lib.hid (HGo.out.1 s1 (by unfold finR; rw [if_pos hL]))
            clear hL
            gi_wp2_with (refine ⟨trivial, rfl, ?_⟩; gi_at_call 46; refine (callsIn_wide.2 HLk2.out).mono ?_; rintro e w7 ⟨rfl, q7, rfl⟩; have HS6 := Lib.hid (HS5.out.keep ((Below.refl _ _).drewN' q7)))
            exact HS6.out.nxt HSt2.out
          · rw [decide_eq_false hL] at HLk2
            gi_wp2_with (refine ⟨trivial, rfl, ?_⟩; gi_at_call 46; refine (callsIn_wide.2 HLk2.out).mono ?_; rintro e w7 ⟨rfl, q7, rfl⟩; have HS6 := Lib.hid (HS5.out.keep ((Below.refl _ _).drewN' q7)))
            generalize W5.drewN q7 = W6 at HS6 ⊢
            obtain ⟨vt, hrb, hown⟩ := HS6.out.sb.r
            obtain ⟨x6, y6, z6, rfl⟩ := own_form hown
            have hs0 : ∀ n c, (.slice x6 y6 z6 : Value) = .slice none n c → c = 0 := fun n c e => by
              cases e
              rcases hown.2 with ⟨h1, _⟩ | ⟨g', cap, cur, h1, _⟩
              · cases h1; rfl
              · cases h1
            have HD : Hid (Below W6.heap.size W6 W6.drew) := Lib.hid ((Below.refl _ _).drewN' 1)
            have HRb : Hid (∀ u, Below W6.heap.size W6 u → RecBox u (N + 1) s1.num s1.count s1.sum (.slice x6 y6 z6)) := Lib.hid fun u hu => hrb.keep hu
            have HOw : Hid (∀ u, Below W6.heap.size W6 u → OwnI u (N + 6) 5 .u8 (.slice x6 y6 z6) s1.text) := Lib.hid fun u hu => hown.below hu
            have HSum : Hid (∀ u, Below W6.heap.size W6 u → Calls Tryd.prog 49 #[.int .i64 (s1.num : Int), .slice x6 y6 z6] u fun e w' => e = .returned (.int .u32 (sumR s1.num s1.text : Nat)) ∧ Below u.heap.size u w') := Lib.hid fun u hu =>
              sumOf_any s1.num (by have := HS6.out.sb.ok.num; unfold maxNum at this; omega) _ s1.text u (HOw.out u hu).read HS6.out.sb.ok.lt hs0 (by have := HS6.out.sb.ok.len; omega) (HNib.out _ (HS6.out.keep hu).sb.bel)
            obtain ⟨k0, k1, k2, k3⟩ := (HRb.out _ HD.out).cells
            obtain ⟨sv, hsv⟩ : ∃ sv, sumR s1.num s1.text = sv := ⟨_, rfl⟩
            rw [hsv] at HSum
            have HSv := Lib.hid hsv; have HnL := Lib.hid hL
            clear hrb hown hs0 hsv hL HLk2 HS5
--R12
            refine wpIn_calm ?_
            refine wpIn_region_held (S := fun u => u.cell? ⟨N + 1, 0, none⟩ = some (.int .i64 (s1.num : Int)) ∧ u.cell? ⟨N + 1, 2, none⟩ = some (.int .u32 (s1.sum : Int)) ∧ u.cell? ⟨N + 1, 3, none⟩ = some (.slice x6 y6 z6)) (by kernel_rfl) (by kernel_rfl) (calm_in _) (⟨k0, k2, k3⟩) (fun hHeld => ?_)
            refine wpAnyH_take (i := 0) (oi := { dst := some 43, op := Op.fieldAddr 90 (Operand.tmp 7) 0, type := 0, pos := "record.go:137", after := #[], guard := none }) (v := ?_) rfl (by kernel_rfl) (by kernel_rfl) (by kernel_rfl) (fun _ _ _ h => h) (Or.inl ⟨by rfl, ?_⟩) hHeld ?_
            rotate_left 1
            · intro W hSw
              (try dsimp only at hSw)
              go_simp
              try with_reducible rfl
            try simp only [Act.put, List.setIfInBounds_toArray, List.set_cons_zero, List.set_cons_succ]
            refine wpAnyH_take (i := 1) (oi := { dst := some 44, op := Op.load 2 (Operand.tmp 43), type := 2, pos := "record.go:137", after := #[{ on := 0, ground := Ground.data }], guard := none }) (v := ?_) rfl (by kernel_rfl) (by kernel_rfl) (by kernel_rfl) (fun _ _ _ h => h) (Or.inl ⟨by rfl, ?_⟩) hHeld ?_
            rotate_left 1
            · intro W hSw
              (try dsimp only at hSw)
              go_simp
              try with_reducible rfl
            try simp only [Act.put, List.setIfInBounds_toArray, List.set_cons_zero, List.set_cons_succ]
            refine wpAnyH_take (i := 2) (oi := { dst := some 45, op := Op.fieldAddr 90 (Operand.tmp 7) 3, type := 0, pos := "record.go:137", after := #[], guard := none }) (v := ?_) rfl (by kernel_rfl) (by kernel_rfl) (by kernel_rfl) (fun _ _ _ h => h) (Or.inl ⟨by rfl, ?_⟩) hHeld ?_
            rotate_left 1
            · intro W hSw
              (try dsimp only at hSw)
              go_simp
              try with_reducible rfl
            try simp only [Act.put, List.setIfInBounds_toArray, List.set_cons_zero, List.set_cons_succ]
            refine wpAnyH_take (i := 3) (oi := { dst := some 46, op := Op.load 22 (Operand.tmp 45), type := 22, pos := "record.go:137", after := #[{ on := 2, ground := Ground.data }], guard := none }) (v := ?_) rfl (by kernel_rfl) (by kernel_rfl) (by kernel_rfl) (fun _ _ _ h => h) (Or.inl ⟨by rfl, ?_⟩) hHeld ?_
            rotate_left 1
            · intro W hSw
              (try dsimp only at hSw)
              go_simp
              try with_reducible rfl
            try simp only [Act.put, List.setIfInBounds_toArray, List.set_cons_zero, List.set_cons_succ]
            refine wpAnyH_take (i := 5) (oi := { dst := some 48, op := Op.fieldAddr 90 (Operand.tmp 7) 2, type := 0, pos := "record.go:137", after := #[], guard := none }) (v := ?_) rfl (by kernel_rfl) (by kernel_rfl) (by kernel_rfl) (fun _ _ _ h => h) (Or.inl ⟨by rfl, ?_⟩) hHeld ?_
            rotate_left 1
            · intro W hSw
              (try dsimp only at hSw)
              go_simp
              try with_reducible rfl
            try simp only [Act.put, List.setIfInBounds_toArray, List.set_cons_zero, List.set_cons_succ]
            refine wpAnyH_take (i := 6) (oi := { dst := some 49, op := Op.load 88 (Operand.tmp 48), type := 88, pos := "record.go:137", after := #[{ on := 5, ground := Ground.data }], guard := none }) (v := ?_) rfl (by kernel_rfl) (by kernel_rfl) (by kernel_rfl) (fun _ _ _ h => h) (Or.inl ⟨by rfl, ?_⟩) hHeld ?_
            rotate_left 1
            · intro W hSw
              (try dsimp only at hSw)
              go_simp
              try with_reducible rfl
            try simp only [Act.put, List.setIfInBounds_toArray, List.set_cons_zero, List.set_cons_succ]
            refine wpAnyH_ready (rs := [4]) (by kernel_rfl) (by simp) ?_
            refine AllReadyH.cons (o := { dst := some 47, op := Op.call { callee := Callee.value (Operand.func 49), args := #[Operand.tmp 44, Operand.tmp 46], argTypes := #[2, 22] }, type := 88, pos := "record.go:137", after := #[{ on := 1, ground := Ground.data }, { on := 3, ground := Ground.data }], guard := none }) rfl (fun K hK => ?_) ?_
            · go_simp
              refine (HSum.out _ HD.out).mono ?_
              rintro e w8 ⟨rfl, hb8⟩
              have HB8 : Hid (Below W6.heap.size W6 w8) := Lib.hid (HD.out.trans hb8)
              obtain ⟨j0, j1, j2, j3⟩ := (HRb.out _ HB8.out).cells
              clear hb8
              try dsimp only
              refine hK.out _ _ (⟨j0, j2, j3⟩) (fun hHeld => ?_)
              clear hK K
              try simp only [Act.put, List.setIfInBounds_toArray, List.set_cons_zero, List.set_cons_succ]
              refine wpAnyH_take (i := 7) (oi := { dst := some 50, op := Op.binOp BinOp.neq 88 (Operand.tmp 47) (Operand.tmp 49) 88, type := 4, pos := "record.go:137", after := #[{ on := 4, ground := Ground.data }, { on := 6, ground := Ground.data }], guard := none }) (v := ?_) rfl (by kernel_rfl) (by kernel_rfl) (by kernel_rfl) (fun _ _ _ h => h) (Or.inl ⟨by rfl, ?_⟩) hHeld ?_
              rotate_left 1
              · intro W hSw
                (try dsimp only at hSw)
                go_simp
                try with_reducible rfl
              try simp only [Act.put, List.setIfInBounds_toArray, List.set_cons_zero, List.set_cons_succ]
              refine wpAnyH_done (by kernel_rfl) ?_ _
              refine calm_normal ?_
              have HS8 := Lib.hid (HS6.out.keep HB8.out)
              clear hHeld j0 j1 j2 j3 k0 k1 k2 k3
              by_cases hse : sv = s1.sum
              case neg =>
                have hb : True → ((sv : Int) != (s1.sum : Int)) = true := fun _ => by rw [bne_iff_ne]; omega
                have HT := Lib.hid (HGo.out.2 s1 (by unfold finR; rw [if_neg HnL.out, if_pos (fun h => hse (HSv.out.symm.trans h))]))
                rw [hb trivial]
                clear hse hb
                gi_wp2
                exact HS8.out.brk (by rw [HT.out]) (by rw [HT.out])
              have hb : True → ((sv : Int) != (s1.sum : Int)) = false := fun _ => by rw [hse]; simp
              rw [hb trivial]
              clear hb
              have hfin : finR s1 = ({ s1 with l := s1.l ++ [s1.text], taken := s1.taken + need s1.count, last := s1.num }, true) := by unfold finR; rw [if_neg HnL.out, if_neg (fun h => h (HSv.out.trans hse))]
              have HT := Lib.hid (HGo.out.1 _ hfin)
              have hfo := fin_ok HS8.out.sb.ok hi4 HLs.out.1 HLs.out.2
              rw [hfin] at hfo
              have HFo := Lib.hid hfo
              obtain ⟨vl, hlb, hlo⟩ := HS8.out.sb.l
              obtain ⟨xl, zl, hvl⟩ := hlo.form
              rw [List.length_map] at hvl
              subst hvl
              have hlc := box_cell hlb
              obtain ⟨j0, j1, j2, j3⟩ := (HRb.out _ HB8.out).cells
              have hcv := conv_sl (HOw.out _ HB8.out).read
              have HLo := Lib.hid hlo; have HLb := Lib.hid hlb
              have HLn := Lib.hid (show s1.l.length ≤ 4096 by have := HLs.out.1; omega)
              clear hse hfin hfo hlo hlb
              gi_wp2_with (gi_at_builtin; refine app1T_in rfl (.tmp 51) (.tmp 55) 30 rfl (N + 6) Tryd.underlying30 infoStr _ (s1.l.map strN) rfl HLo.out (strN s1.text) _ rfl rfl (by have := HLn.out; rw [List.length_map]; unfold maxLen; omega) (by have := HLn.out; rw [List.length_map]; omega) HS8.out.size ?_; intro v9 w9 ho9 hk9; obtain ⟨x9, z9, hv9⟩ := ho9.form; simp only [List.length_append, List.length_map, List.length_cons, List.length_nil, Nat.zero_add] at hv9; subst hv9; have cN : w9.cell? ⟨N, 0, none⟩ = some (.slice xl s1.l.length zl) := (by simp [World.cell?, hk9.below N (by omega), HLb.out]); have fN : w9.frozen? ⟨N, 0, none⟩ = false := (by simp [World.frozen?, hk9.below N (by omega), HLb.out]); have HO9 := Lib.hid ho9; have HK9 := Lib.hid hk9; clear ho9 hk9)
              have hok9 : RdOk (i + 1) { s1 with l := s1.l ++ [s1.text] } := ⟨HS8.out.sb.ok.num, HS8.out.sb.ok.count, HS8.out.sb.ok.sum, HS8.out.sb.ok.text, HS8.out.sb.ok.len, HS8.out.sb.ok.lt, by have := HLs.out.1; simp only [List.length_append, List.length_cons, List.length_nil]; omega, HS8.out.sb.ok.taken, HS8.out.sb.ok.last⟩
              have HS9 := Lib.hid (HS8.out.app HNR.out HK9.out HO9.out hok9)
              clear hlc hcv cN fN j0 j1 j2 j3 hok9 HK9 HO9 HLo HLb
              generalize w9.setCell ⟨N, 0, none⟩ _ = W9 at HS9 ⊢
              have HS9d : Hid (SY N R w (i + 1) { s1 with l := s1.l ++ [s1.text] } (rec .busy none) _ _ (.slice (some ⟨g, 9, none⟩) 55 55) W9.drew) := Lib.hid (HS9.out.keep ((Below.refl _ _).drewN' 1))
              obtain ⟨c0, c1, c2, c3, c4, c5, c6, c7⟩ := HS9d.out.cells
              obtain ⟨f0, f1, f2, f3, f4, f5, f6⟩ := HS9d.out.free
              have HNd : Hid (∀ u, Calls Tryd.prog 28 #[.int .i64 (s1.count : Int)] u fun e w' => e = .returned (.int .i64 (need s1.count : Nat)) ∧ u = w') := Lib.hid fun u => by
                have hc := HS9.out.sb.ok.count
                have h := Need_any (s1.count : Int) u (by omega) (by simp only at hc; omega)
                rw [Int.toNat_natCast] at h
                exact h
              obtain ⟨x, hx⟩ : ∃ x, s1.taken + need s1.count = x := ⟨_, rfl⟩
              have hxb : x ≤ 2000000000 := by have h := HFo.out.taken; simp only [hx] at h; omega
              have e1 : True → IntKind.i64.wrap ((s1.taken : Int) + (need s1.count : Nat)) = (x : Int) := fun _ => by rw [IntKind.wrap_i64]; omega
              have e2 : True → wrap64 ((s1.taken : Int) + (need s1.count : Nat)) = (x : Int) := fun _ => by unfold wrap64; omega
              have HX := Lib.hid hx
              generalize need s1.count = nd at HNd e1 e2
              simp only at c3 c4 c5 c6 c7
              clear hx hxb
              have HFk : Hid (RdOk (i + 1) { s1 with l := s1.l ++ [s1.text], taken := x }) := Lib.hid (by have h := HFo.out; simp only [HX.out] at h; exact ⟨h.num, h.count, h.sum, h.text, h.len, h.lt, h.ls, h.taken, HS9.out.sb.ok.last⟩)
              refine wpIn_calm ?_
              refine wpIn_region_held (S := fun u => u.cell? ⟨N + 1, 1, none⟩ = some (.int .i64 (s1.count : Int))) (by kernel_rfl) (by kernel_rfl) (calm_in _) (c4) (fun hHeld => ?_)
              refine wpAnyH_take (i := 1) (oi := { dst := some 58, op := Op.fieldAddr 90 (Operand.tmp 7) 1, type := 0, pos := "record.go:141", after := #[], guard := none }) (v := ?_) rfl (by kernel_rfl) (by kernel_rfl) (by kernel_rfl) (fun _ _ _ h => h) (Or.inl ⟨by rfl, ?_⟩) hHeld ?_
              rotate_left 1
              · intro W hSw
                (try dsimp only at hSw)
                go_simp
                try with_reducible rfl
              try simp only [Act.put, List.setIfInBounds_toArray, List.set_cons_zero, List.set_cons_succ]
              refine wpAnyH_take (i := 2) (oi := { dst := some 59, op := Op.load 3 (Operand.tmp 58), type := 3, pos := "record.go:141", after := #[{ on := 1, ground := Ground.data }], guard := none }) (v := ?_) rfl (by kernel_rfl) (by kernel_rfl) (by kernel_rfl) (fun _ _ _ h => h) (Or.inl ⟨by rfl, ?_⟩) hHeld ?_
              rotate_left 1
              · intro W hSw
                (try dsimp only at hSw)
                go_simp
                try with_reducible rfl
              try simp only [Act.put, List.setIfInBounds_toArray, List.set_cons_zero, List.set_cons_succ]
              refine wpAnyH_ready (rs := [0, 3]) (by kernel_rfl) (by simp) ?_
              refine AllReadyH.cons (o := { dst := some 57, op := Op.load 3 (Operand.tmp 8), type := 3, pos := "record.go:141", after := #[], guard := none }) rfl (fun K hK => ?_) ?_
              · go_simp
                refine hK.out _ _ (c4) (fun hHeld => ?_)
                clear hK K
                try simp only [Act.put, List.setIfInBounds_toArray, List.set_cons_zero, List.set_cons_succ]
                refine wpAnyH_ready (rs := [3]) (by kernel_rfl) (by simp) ?_
                refine AllReadyH.cons (o := { dst := some 60, op := Op.call { callee := Callee.value (Operand.func 28), args := #[Operand.tmp 59], argTypes := #[3] }, type := 3, pos := "record.go:141", after := #[{ on := 2, ground := Ground.data }], guard := none }) rfl (fun K hK => ?_) ?_
                · go_simp
                  refine (HNd.out _).mono ?_
                  rintro e w' ⟨rfl, rfl⟩
                  try dsimp only
                  refine hK.out _ _ (c4) (fun hHeld => ?_)
                  clear hK K
                  try simp only [Act.put, List.setIfInBounds_toArray, List.set_cons_zero, List.set_cons_succ]
                  refine wpAnyH_take (i := 4) (oi := { dst := some 61, op := Op.binOp BinOp.add 3 (Operand.tmp 57) (Operand.tmp 60) 3, type := 3, pos := "record.go:141", after := #[{ on := 0, ground := Ground.data }, { on := 3, ground := Ground.data }], guard := none }) (v := ?_) rfl (by kernel_rfl) (by kernel_rfl) (by kernel_rfl) (fun _ _ _ h => h) (Or.inl ⟨by rfl, ?_⟩) hHeld ?_
                  rotate_left 1
                  · intro W hSw
                    (try dsimp only at hSw)
                    go_simp
                    try with_reducible rfl
                  try simp only [Act.put, List.setIfInBounds_toArray, List.set_cons_zero, List.set_cons_succ]
                  refine wpAnyH_ready (rs := [5]) (by kernel_rfl) (by simp) ?_
                  refine AllReadyH.cons (o := { dst := none, op := Op.store 3 (Operand.tmp 8) (Operand.tmp 61), type := 0, pos := "record.go:141", after := #[{ on := 4, ground := Ground.data }, { on := 3, ground := Ground.chain }, { on := 0, ground := Ground.phase }, { on := 1, ground := Ground.phase }, { on := 2, ground := Ground.phase }, { on := 3, ground := Ground.phase }, { on := 4, ground := Ground.phase }], guard := none }) rfl (fun K hK => ?_) ?_
                  · go_simp
                    refine hK.out _ _ (by have h := (HS9d.out.setTaken HNR.out x HFk.out).cells; exact h.2.2.2.2.1) (fun hHeld => ?_)
                    clear hK K
                    try simp only [Act.put, List.setIfInBounds_toArray, List.set_cons_zero, List.set_cons_succ]
                    refine wpAnyH_done (by kernel_rfl) ?_ _
                    refine calm_normal ?_
                    have HS10 : Hid (SY N R w (i + 1) _ (rec .busy none) _ _ (.slice (some ⟨g, 9, none⟩) 55 55) (W9.setCell ⟨N + 2, 0, none⟩ (.int .i64 (x : Int))).drew) := Lib.hid (HS9d.out.setTaken HNR.out x HFk.out)
                    clear hHeld c0 c1 c2 c3 c4 c5 c6 c7 f0 f1 f2 f3 f4 f5 f6 e1 e2 HS9d HS9 HNd
                    generalize (W9.setCell ⟨N + 2, 0, none⟩ (.int .i64 (x : Int))).drew = W10 at HS10 ⊢
                    obtain ⟨c0, c1, c2, c3, c4, c5, c6, c7⟩ := HS10.out.cells
                    obtain ⟨f0, f1, f2, f3, f4, f5, f6⟩ := HS10.out.free
                    simp only at c3 c7
                    gi_wp2
                    have hF2 : RdOk (i + 1) { s1 with l := s1.l ++ [s1.text], taken := x, last := s1.num } := by have h := HFo.out; simp only [HX.out] at h; exact h
                    exact (HS10.out.setLast HNR.out s1.num hF2).nxt (by have h := HT.out; simp only [HX.out] at h; exact h)
                  exact AllReadyH.nil
                exact AllReadyH.nil
              refine AllReadyH.cons (o := { dst := some 60, op := Op.call { callee := Callee.value (Operand.func 28), args := #[Operand.tmp 59], argTypes := #[3] }, type := 3, pos := "record.go:141", after := #[{ on := 2, ground := Ground.data }], guard := none }) rfl (fun K hK => ?_) ?_
              · go_simp
                refine (HNd.out _).mono ?_
                rintro e w' ⟨rfl, rfl⟩
                try dsimp only
                refine hK.out _ _ (c4) (fun hHeld => ?_)
                clear hK K
                try simp only [Act.put, List.setIfInBounds_toArray, List.set_cons_zero, List.set_cons_succ]
                refine wpAnyH_ready (rs := [0]) (by kernel_rfl) (by simp) ?_
                refine AllReadyH.cons (o := { dst := some 57, op := Op.load 3 (Operand.tmp 8), type := 3, pos := "record.go:141", after := #[], guard := none }) rfl (fun K hK => ?_) ?_
                · go_simp
                  refine hK.out _ _ (c4) (fun hHeld => ?_)
                  clear hK K
                  try simp only [Act.put, List.setIfInBounds_toArray, List.set_cons_zero, List.set_cons_succ]
                  refine wpAnyH_take (i := 4) (oi := { dst := some 61, op := Op.binOp BinOp.add 3 (Operand.tmp 57) (Operand.tmp 60) 3, type := 3, pos := "record.go:141", after := #[{ on := 0, ground := Ground.data }, { on := 3, ground := Ground.data }], guard := none }) (v := ?_) rfl (by kernel_rfl) (by kernel_rfl) (by kernel_rfl) (fun _ _ _ h => h) (Or.inl ⟨by rfl, ?_⟩) hHeld ?_
                  rotate_left 1
                  · intro W hSw
                    (try dsimp only at hSw)
                    go_simp
                    try with_reducible rfl
                  try simp only [Act.put, List.setIfInBounds_toArray, List.set_cons_zero, List.set_cons_succ]
                  refine wpAnyH_ready (rs := [5]) (by kernel_rfl) (by simp) ?_
                  refine AllReadyH.cons (o := { dst := none, op := Op.store 3 (Operand.tmp 8) (Operand.tmp 61), type := 0, pos := "record.go:141", after := #[{ on := 4, ground := Ground.data }, { on := 3, ground := Ground.chain }, { on := 0, ground := Ground.phase }, { on := 1, ground := Ground.phase }, { on := 2, ground := Ground.phase }, { on := 3, ground := Ground.phase }, { on := 4, ground := Ground.phase }], guard := none }) rfl (fun K hK => ?_) ?_
                  · go_simp
                    refine hK.out _ _ (by have h := (HS9d.out.setTaken HNR.out x HFk.out).cells; exact h.2.2.2.2.1) (fun hHeld => ?_)
                    clear hK K
                    try simp only [Act.put, List.setIfInBounds_toArray, List.set_cons_zero, List.set_cons_succ]
                    refine wpAnyH_done (by kernel_rfl) ?_ _
                    refine calm_normal ?_
                    have HS10 : Hid (SY N R w (i + 1) _ (rec .busy none) _ _ (.slice (some ⟨g, 9, none⟩) 55 55) (W9.setCell ⟨N + 2, 0, none⟩ (.int .i64 (x : Int))).drew) := Lib.hid (HS9d.out.setTaken HNR.out x HFk.out)
                    clear hHeld c0 c1 c2 c3 c4 c5 c6 c7 f0 f1 f2 f3 f4 f5 f6 e1 e2 HS9d HS9 HNd
                    generalize (W9.setCell ⟨N + 2, 0, none⟩ (.int .i64 (x : Int))).drew = W10 at HS10 ⊢
                    obtain ⟨c0, c1, c2, c3, c4, c5, c6, c7⟩ := HS10.out.cells
                    obtain ⟨f0, f1, f2, f3, f4, f5, f6⟩ := HS10.out.free
                    simp only at c3 c7
                    gi_wp2
                    have hF2 : RdOk (i + 1) { s1 with l := s1.l ++ [s1.text], taken := x, last := s1.num } := by have h := HFo.out; simp only [HX.out] at h; exact h
                    exact (HS10.out.setLast HNR.out s1.num hF2).nxt (by have h := HT.out; simp only [HX.out] at h; exact h)
                  exact AllReadyH.nil
                exact AllReadyH.nil
              exact AllReadyH.nil
            exact AllReadyH.nil
--R12E
      · rintro e W' (⟨he, h⟩ | ⟨he, c, h⟩)
        · exact .inl ⟨he, h⟩
        · exact .inr ⟨he, c, h⟩
  case' hdone =>
    rintro W r r' ⟨i, s, hsb, hTl, hTt⟩ hb
    simp only [s0]
    have hk : (W.putObj (N + 4 + 1) (.loop r')).heap[N + 4]? = some (.deferred (some [])) := by
      have := hb.2
      simp only [s0] at this
      exact (World.putObj_heap_other (by omega)).trans this
    have hg2 := hsb.putObj (N + 4 + 1) (.loop r') (by omega) (by omega)
    clear hsb hb hsb0 hrow hnib
    generalize W.putObj (N + 4 + 1) (.loop r') = W3 at hk hg2 ⊢
  case' hstop =>
    rintro W c r r' ⟨rfl, i, s, hsb, hTl, hTt⟩ hb
    simp only [s0]
    have hk : (W.putObj (N + 4 + 1) (.loop r')).heap[N + 4]? = some (.deferred (some [])) := by
      have := hb.2
      simp only [s0] at this
      exact (World.putObj_heap_other (by omega)).trans this
    have hg2 := hsb.putObj (N + 4 + 1) (.loop r') (by omega) (by omega)
    clear hsb hb hsb0 hrow hnib
    generalize W.putObj (N + 4 + 1) (.loop r') = W3 at hk hg2 ⊢
  all_goals
    obtain ⟨vl, hlb, hlo⟩ := hg2.l
    obtain ⟨xl, zl, hvl⟩ := hlo.form
    rw [List.length_map] at hvl
    subst hvl
    have k0 := box_cell hlb
    have k1 := box_cell hg2.taken
    have HG3 := Lib.hid hg2; have HD3 := Lib.hid hk; have HLo := Lib.hid hlo
    have HT := Lib.hid hT; have HTl := Lib.hid hTl; have HTt := Lib.hid hTt
    clear hg2 hk hlo hlb hT hTl hTt
    gi_wp2
    refine wpIn_calm ?_
    refine (wpIn_wide (n := 0)).2 ?_
    go_quiet (fail)
    refine calm_normal ?_
    have HG4 : Hid (SB N w i s (W3.drewN nq)) := Lib.hid (HG3.out.keep ((Below.refl _ _).drewN' nq))
    have HD4 : Hid ((W3.drewN nq).heap[N + 4]? = some (.deferred (some []))) := HD3
    have HLo4 : Hid (OwnT (W3.drewN nq) (N + 6) (.slice xl s.l.length zl) (s.l.map strN)) := Lib.hid (HLo.out.below ((Below.refl _ _).drewN' nq))
    generalize W3.drewN nq = W4 at HG4 HD4 HLo4 ⊢
    gi_wp2
    refine ⟨by simp, .inl ⟨_, _, rfl, run_takeDeferred HD4.out, ?_⟩⟩
    refine ⟨.tuple #[.slice xl s.l.length zl, .int .i64 (s.taken : Int)], (results_tmp2 (t := 4) (u := 5) rfl _ _ _).trans rfl, ⟨.slice xl s.l.length zl, ?_, ?_⟩, ?_⟩
    · have he : (standF first (pcsOf m from_ n)).2 = s.taken := by unfold standF; rw [HT.out, HTt.out]
      rw [he]
    · have he : (standF first (pcsOf m from_ n)).1 = s.l := by unfold standF; rw [HT.out, HTl.out]
      rw [he, HNn.out]
      refine OwnT.base (B := N + 6) (HLo4.out.stays fun g hg => World.putObj_heap_other ?_) (by omega)
      have := (World.ownsRow.lt HLo4.out g hg).1
      omega
    · rw [HNn.out]
      exact below_putObj HG4.out.bel _ _ (by omega)

end Go.Proofs.YtkhghkklekjdaaaDoor.journal
