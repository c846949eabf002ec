/- 'read' over the parts of a key. -/
import Derived.Test.YtfpfgckakppllaaRows
import Derived.Test.YtfpfgckakppllaaCodeReadL
import Derived.Test.YtfpfgckakppllaaCodeRPickP
import Derived.Shelf.Abstract
namespace Go.Proofs.Ytfpfgckakppllaa.code
open Go.RowKit
open Go.Proofs.Ytfpfgckakppllaa.kit Go.Proofs.Ytfpfgckakppllaa.cm Go.Proofs.Ytfpfgckakppllaa.iter
set_option linter.unusedVariables false
attribute [local go_sem] Oper.semAt_some

theorem rm_part {L N : Nat} {w : World} {kv : Value} {rb : Nat} {ks : List Int} {R0 : Except Int (List Fld × List Nat)} {r : Loop} (hN0 : N = w.heap.size) (hs : SlK w kv ks) (hold : ∀ b off n c, kv = .slice (some ⟨b, off, none⟩) n c → 0 < n → b ≠ rb) (hL : L ≤ N) (hrb : rb < N)
    (i : Nat) (W : World) (hi : i < ks.length) (h : RI L N w kv 20 rb rPart ks R0 r i W) :
    CallsIn Fence.wide 0 Try.prog 32 (#[.int .i64 i] ++ #[.pointer (some ⟨N + 1, 0, none⟩), .pointer (some ⟨N, 0, none⟩)]) W fun e W' =>
      ∃ (f : Fld) (er : Int), e = .returned (.tuple #[.agg #[.int .i64 f.kind, .int .i64 f.num, .string f.text, .bool f.is], .int .i64 er]) ∧ RM L N w kv 20 rb rPart ks R0 r i f er W' := by
  obtain ⟨fs, rr, hgot, hlen, hrest, hA⟩ := h.got
  have hsz := h.rc.size
  refine (callsIn_wide.2 (pickP_any (L := L) rb (N + 1) N ks kv i hi rr W h.rc.bt h.rc.bk (hs.old hold h.rc.bel) hrest (by omega))).mono ?_
  intro e W' hp
  obtain ⟨f, er, rfl, hg, hr⟩ := hp.any
  have hd : ks.drop i = ks[i] :: ks.drop (i + 1) := List.drop_eq_getElem_cons hi
  refine ⟨f, er, rfl, h.rc.keep hrb hg, hi, fs, hgot.keep hrb hg, hlen, ?_⟩
  rcases hr with ⟨r', hR, h0, hrest'⟩ | ⟨hR, _, h0⟩
  · exact .inl ⟨r', h0, hrest', by rw [← hA, hd, rA_ok hR]⟩
  · exact .inr ⟨h0, by rw [← hA, hd, rA_err hR]⟩

set_option maxHeartbeats 4000000 in
set_option maxRecDepth 100000 in
theorem read_part {L : Nat} (kv : Value) (ks : List Int) (rb : Nat) (bs : List Nat) (w : World) (hk : SlK w kv ks) (hold : ∀ b off n c, kv = .slice (some ⟨b, off, none⟩) n c → 0 < n → b ≠ rb) (hr : Rest L w rb bs) (hL : L ≤ w.heap.size) (hlen : ks.length ≤ 1000000000000) :
    Calls Try.prog 19 #[kv, .func (.func 20) #[.pointer (some ⟨rb, 0, none⟩)] #[]] w (ReadP L w rb (rA rPart [] ks bs)) := by
  obtain ⟨hl, a, cap, rfl, hc⟩ := id hk
  have hrl : rb < w.heap.size := by obtain ⟨_, v, hv, _⟩ := hr; exact box_lt hv
  have HK := Lib.hid hk; have HR := Lib.hid hr; have HL := Lib.hid hL; have HOld := Lib.hid hold; have HRL := Lib.hid hrl
  clear hc hk hr hL hold hrl
  obtain ⟨R0, hR0⟩ : ∃ R0, rA rPart [] ks bs = R0 := ⟨_, rfl⟩
  rw [hR0]
  have HR0 := Lib.hid hR0
  clear hR0
  refine (callsIn_wide (n := 0)).1 ?_
  refine callsIn_of_wp_marks Try.func19 rfl trivial ?_ rfl
  simp only [Try.ntmps19, List.size_toArray, List.length_cons, List.length_nil, Nat.reduceAdd, Nat.reduceSub, Array.replicate_succ, Array.replicate_zero, List.push_toArray, List.append_toArray, List.nil_append, List.cons_append]
  have hmf : ∀ (fn : Fn) (first cap : Array Value) (w : World), (Instr.makeFunc fn first cap).run Try.prog w = .ok (.func fn first cap) w := fun _ _ _ _ => rfl
  gi_wp2_with (refine ⟨trivial, rfl, ?_⟩; gi_at_call 25; refine (callsIn_wide.2 (row_any ks.length _ _ _)).mono ?_; rintro e w' ⟨rfl, rfl⟩)
  obtain ⟨s0, s1, s2, s3, s4, s5, s6, s7, s8⟩ := seven_alloc w (.cells #[.slice a ks.length cap] 31) (.cells #[.func (.func 20) #[.pointer (some ⟨rb, 0, none⟩)] #[]] 50) (.cells #[.slice none 0 0] 22)
    (.cells #[.int .i64 0] 28) (.cells #[.int .i64 ks.length] 3) (.cells #[.func (.func 32) #[] #[.pointer (some ⟨w.heap.size + 1, 0, none⟩), .pointer (some ⟨w.heap.size, 0, none⟩)]] 50) (.cells #[.slice none 0 0] 22)
  generalize hW6 : (((((((w.alloc (.cells #[.slice a ks.length cap] 31)).alloc (.cells #[.func (.func 20) #[.pointer (some ⟨rb, 0, none⟩)] #[]] 50)).alloc (.cells #[.slice none 0 0] 22)).alloc
    (.cells #[.int .i64 0] 28)).alloc (.cells #[.int .i64 ks.length] 3)).alloc (.cells #[.func (.func 32) #[] #[.pointer (some ⟨w.heap.size + 1, 0, none⟩), .pointer (some ⟨w.heap.size, 0, none⟩)]] 50)).alloc (.cells #[.slice none 0 0] 22)) = W6 at s0 s1 s2 s3 s4 s5 s6 s7 s8 ⊢
  clear hW6
  obtain ⟨N, hNs⟩ : ∃ N, w.heap.size = N := ⟨_, rfl⟩
  simp only [hNs, Nat.add_assoc, Nat.reduceAdd] at s0 s1 s2 s3 s4 s5 s6 s7 s8 ⊢
  have HN := Lib.hid hNs
  have hLN : L ≤ N := by rw [← hNs]; exact HL.out
  have hrN : rb < N := by rw [← hNs]; exact HRL.out
  have HLN := Lib.hid hLN; have HRN := Lib.hid hrN
  clear hNs hLN hrN
  refine range_stmt (n := 0) (gf := 43) (lb := #[.pointer (some ⟨N + 4, 0, none⟩), .pointer (some ⟨N + 5, 0, none⟩)])
    (I := fun W => ∃ r, RI L N w (.slice a ks.length cap) 20 rb rPart ks R0 r ks.length W)
    (X := fun W => ∃ r er, RC N w (.slice a ks.length cap) 20 rb ks.length (.slice none 0 0) er r W ∧ er ≠ 0 ∧ R0 = .error er)
    rfl (enters_of Try.func43 (by kernel_rfl) rfl) ?hit ?hdone ?hstop
  case hit =>
    intro fn rec hrec
    simp only [s0] at hrec ⊢
    refine (row1_read (N + 7 + 1) ks.length (N + 4) (N + 5) #[.pointer (some ⟨N + 1, 0, none⟩), .pointer (some ⟨N, 0, none⟩)]
      (I := fun i W => RI L N w (.slice a ks.length cap) 20 rb rPart ks R0 (rec .ready none) i W)
      (X := fun i W => ∃ er, RC N w (.slice a ks.length cap) 20 rb ks.length (.slice none 0 0) er (rec .done (some .ret)) W ∧ er ≠ 0 ∧ R0 = .error er)
      (Mid := fun i f er W => RM L N w (.slice a ks.length cap) 20 rb rPart ks R0 (rec .ready none) i f er W)
      (fun i W h => ⟨box_cell h.rc.bn, box_cell h.rc.bf⟩) hl (fun i W hi h => rm_part HN.out.symm HK.out HOld.out HLN.out HRN.out i W hi h) ?yield _ ?start).mono ?post
    case post =>
      rintro e W ⟨hv, (h | ⟨i, hi, er, h, h1, h2⟩)⟩
      · exact ⟨hv, .inl ⟨⟨_, h⟩, h.rc.bo⟩⟩
      · exact ⟨hv, .inr ⟨⟨_, er, h, h1, h2⟩, h.bo⟩⟩
    case start =>
      have b1 : Below W6.heap.size W6 ((W6.alloc (.deferred (some []))).alloc (.loop (rec .ready none))) := ((Below.refl _ W6).alloc (Nat.le_refl _) _).alloc (by simp) _
      have hk : ∀ j, j < N + 7 → ((W6.alloc (.deferred (some []))).alloc (.loop (rec .ready none))).heap[j]? = W6.heap[j]? := fun j hj => b1.block j (by omega)
      have b2 : Below N w ((W6.alloc (.deferred (some []))).alloc (.loop (rec .ready none))) := s8.trans (b1.mono (by omega))
      refine ⟨⟨⟨b2.os, b2.tape, b2.output, b2.size, fun k hk _ => b2.block k (by rw [← HN.out]; exact hk)⟩, by simp [s0], (hk _ (by omega)).trans s1, (hk _ (by omega)).trans s2, (hk _ (by omega)).trans s3, (hk _ (by omega)).trans s4, (hk _ (by omega)).trans s5, (hk _ (by omega)).trans s6, ?_, ?_⟩, [], bs, ⟨_, (hk _ (by omega)).trans s7, World.ownsRow_nil _ _ _ _⟩, rfl, HR.out.below' b2 HLN.out HRN.out, HR0.out⟩
      · have := World.alloc_heap_new (W6.alloc (.deferred (some []))) (.loop (rec .ready none))
        rw [World.size_alloc, s0] at this
        exact this
      · simp only [alloc_heap, Array.getElem?_push, Array.size_push, s0]; simp
    case yield =>
      intro i f er W hi hm
      have hb1 : Below W.heap.size W (W.alloc (.cells #[.int .i64 f.kind, .int .i64 f.num, .string f.text, .bool f.is] 37)) := (Below.refl _ _).alloc (Nat.le_refl _) _
      have hw1 := hm.grow HRN.out hb1
      refine yield_round hrec (Rt := fun W' => er = 0 ∧ RI L N w (.slice a ks.length cap) 20 rb rPart ks R0 (rec .ready none) (i + 1) W') hw1.rc.bo rfl ?_
      have HW1 := Lib.hid hw1
      clear hrec hw1 hm hb1 s0 s1 s2 s3 s4 s5 s6 s7 s8
      obtain ⟨W1, hW1⟩ : ∃ W1, W.alloc (.cells #[.int .i64 f.kind, .int .i64 f.num, .string f.text, .bool f.is] 37) = W1 := ⟨_, rfl⟩
      rw [hW1] at HW1 ⊢
      clear hW1
      gi_wp2
      have b2 : Below W1.heap.size W1 (W1.alloc (.cells #[.int .i64 f.kind, .int .i64 f.num, .string f.text, .bool f.is] 37)) := (Below.refl _ _).alloc (Nat.le_refl _) _
      refine ⟨(HW1.out.grow HRN.out b2).rc.bo.1, ?_⟩
      have hwb := (HW1.out.grow HRN.out b2).turn HN.out.symm HRN.out HLN.out (rec .busy none)
      have hlt := HW1.out.rc.size
      have hR : ((W1.alloc (.cells #[.int .i64 f.kind, .int .i64 f.num, .string f.text, .bool f.is] 37)).putObj (N + 8) (.loop (rec .busy none))).heap[W1.heap.size]? = some (.cells #[.int .i64 f.kind, .int .i64 f.num, .string f.text, .bool f.is] 37 (0, 0)) :=
        (World.putObj_heap_other (by omega)).trans (World.alloc_heap_new W1 _)
      generalize (W1.alloc (.cells #[.int .i64 f.kind, .int .i64 f.num, .string f.text, .bool f.is] 37)).putObj (N + 7 + 1) (.loop (rec .busy none)) = W3 at hwb hR ⊢
      generalize W1.heap.size = R at hR hlt ⊢
      clear b2 HW1
      have HWb := Lib.hid hwb
      obtain ⟨fs, ⟨v, hv, ho⟩, hfl, hcase⟩ := hwb.got
      obtain ⟨va, vn, vc, rfl⟩ := ownF_slice ho
      obtain ⟨c0, c1, c2, c3⟩ := fbox hR
      have cl := box_cell hv
      have fl := box_frozen hv
      have c2' := box_cell hwb.rc.bl
      have f2 := box_frozen hwb.rc.bl
      have c3' := box_cell hwb.rc.be
      have f3 := box_frozen hwb.rc.be
      have hN3 : N ≤ W3.heap.size := by have := hwb.rc.size; omega
      have HV := Lib.hid hv; have HO := Lib.hid ho; have HFL := Lib.hid hfl; have HCase := Lib.hid hcase
      clear hwb hv ho hR hlt hfl hcase
      by_cases h0 : er = 0
      · subst h0
        gi_wp2_with (gi_at_builtin; refine appF_in rfl (.tmp 20) (.tmp 22) rfl N (.slice va vn vc) fs rfl HO.out f rfl (by have := HFL.out; omega) hN3 ?_; intro v' W4 ho4 hk4; obtain ⟨va', vn', vc', rfl⟩ := ownF_slice ho4; have hv4 := hk4.box (show (22 : Nat) ≠ 37 by decide) HV.out; have cb4 := box_cell hv4; have fb4 := box_frozen hv4; have HV4 := Lib.hid hv4; have HO4 := Lib.hid ho4; have HK4 := Lib.hid hk4; clear ho4 hk4 hv4)
        have hw5 := HWb.out.rc.kept HN.out.symm HV.out HK4.out (.slice va' vn' vc')
        have hgot5 : Got N (fs ++ [f]) (W4.setCell ⟨N + 6, 0, none⟩ (.slice va' vn' vc')) := ⟨_, box_set HV4.out _, HO4.out.set HV4.out (by decide)⟩
        rcases HCase.out with ⟨rr, _, hrest, hA⟩ | ⟨hne, _⟩
        · have hrest5 : Rest L (W4.setCell ⟨N + 6, 0, none⟩ (.slice va' vn' vc')) rb rr := (hrest.below' HK4.out.toBelow HLN.out HRN.out).far (grownBy_setCell' W4 (N + 6) _) (by have := HLN.out; omega) (by have := HRN.out; omega)
          have hfin : RI L N w (.slice a ks.length cap) 20 rb rPart ks R0 (rec .ready none) (i + 1) ((W4.setCell ⟨N + 6, 0, none⟩ (.slice va' vn' vc')).putObj (N + 8) (.loop (rec .ready none))) :=
            ⟨hw5.turn HN.out.symm _, fs ++ [f], rr, hgot5.turn hw5.bo.1, by rw [List.length_append, HFL.out]; rfl, hrest5.turn HLN.out HRN.out _, hA⟩
          first
            | exact ⟨hw5.bo.1, hfin⟩
            | exact ⟨hw5.bo.1, rfl, hfin⟩
        · exact absurd rfl hne
      · have h0' : True → (er != 0) = true := fun _ => by simpa using h0
        have HE : Hid (R0 = .error er) := Lib.hid (by
          rcases HCase.out with ⟨rr, h, _⟩ | ⟨_, h⟩
          · exact absurd h h0
          · exact h)
        have H0 := Lib.hid h0
        clear h0
        gi_wp2
        have hw5 := HWb.out.rc.fails HN.out.symm er
        exact ⟨hw5.bo.1, er, hw5.turn HN.out.symm _, H0.out, HE.out⟩
  case hdone =>
    rintro W r r' ⟨r0, hi⟩ hb
    simp only [s0]
    have hw := hi.rc.turn HN.out.symm r'
    obtain ⟨fs, rr, hgot, hfl, hrest, hA⟩ := hi.got
    have hgot2 := hgot.turn (r' := r') hi.rc.bo.1
    have hrest2 := hrest.turn HLN.out HRN.out (.loop r')
    have HA := Lib.hid hA
    clear hi hb s0 s1 s2 s3 s4 s5 s6 s7 s8 hgot hrest hA
    generalize W.putObj (N + 8) (.loop r') = W3 at hw hgot2 hrest2 ⊢
    obtain ⟨v, hv, ho⟩ := hgot2
    obtain ⟨va, vn, vc, rfl⟩ := ownF_slice ho
    have cl := box_cell hv
    have c2' := box_cell hw.bl
    have f2 := box_frozen hw.bl
    have c3' := box_cell hw.be
    have f3 := box_frozen hw.be
    have HW := Lib.hid hw; have HO := Lib.hid ho; have HV := Lib.hid hv; have HRest := Lib.hid hrest2
    clear hw ho hv hrest2
    gi_wp2
    have hb4 : Box ((W3.setCell ⟨N + 2, 0, none⟩ (.slice va vn vc)).setCell ⟨N + 3, 0, none⟩ (.int .i64 0)) (N + 2) 22 (.slice va vn vc) := (cell_other _ (N + 3) _ _ (by omega)).trans (box_set HW.out.bl _)
    have hb5 : Box ((W3.setCell ⟨N + 2, 0, none⟩ (.slice va vn vc)).setCell ⟨N + 3, 0, none⟩ (.int .i64 0)) (N + 3) 28 (.int .i64 0) := box_set ((cell_other W3 (N + 2) _ _ (by omega)).trans HW.out.be) _
    have hK : ((W3.setCell ⟨N + 2, 0, none⟩ (.slice va vn vc)).setCell ⟨N + 3, 0, none⟩ (.int .i64 0)).heap[N + 7]? = some (.deferred (some [])) := (cell_other _ (N + 3) _ _ (by omega)).trans ((cell_other W3 (N + 2) _ _ (by omega)).trans HW.out.bo.2)
    have gb : Below N W3 ((W3.setCell ⟨N + 2, 0, none⟩ (.slice va vn vc)).setCell ⟨N + 3, 0, none⟩ (.int .i64 0)) := ((Below.refl _ W3).setCell (p := ⟨N + 2, 0, none⟩) (by simp) _).setCell (p := ⟨N + 3, 0, none⟩) (by simp) _
    have g4 : w.grownBy ((W3.setCell ⟨N + 2, 0, none⟩ (.slice va vn vc)).setCell ⟨N + 3, 0, none⟩ (.int .i64 0)) (some rb) := ⟨gb.os.trans HW.out.bel.os, gb.tape.trans HW.out.bel.tape, gb.output.trans HW.out.bel.output, Nat.le_trans HW.out.bel.size gb.size, fun k hk1 hk2 => (gb.block k (by have := HN.out; omega)).trans (HW.out.bel.block k hk1 hk2)⟩
    have ho4 : OwnF ((W3.setCell ⟨N + 2, 0, none⟩ (.slice va vn vc)).setCell ⟨N + 3, 0, none⟩ (.int .i64 0)) N (.slice va vn vc) fs := (HO.out.set HW.out.bl (by decide)).set ((cell_other W3 (N + 2) _ _ (by omega)).trans HW.out.be) (by decide)
    have hr4 := (HRest.out.below' gb HLN.out HRN.out).far (grownBy_putObj' _ (N + 7) (.deferred none)) (by have := HLN.out; omega) (by have := HRN.out; omega)
    have hA : R0 = .ok (fs, rr) := by have := HA.out; rw [List.drop_length, rA] at this; exact this.symm
    refine ⟨by simp, .inl ⟨_, _, rfl, run_takeDeferred hK, ?_⟩⟩
    refine ⟨_, ret_two rfl rfl rfl Try.underlying22 rfl Try.underlying28 rfl (box_cell ((World.putObj_heap_other (by omega)).trans hb4)) (box_cell ((World.putObj_heap_other (by omega)).trans hb5)), grown_shut g4 HN.out, ?_⟩
    rw [hA]
    exact ⟨⟨_, rfl, by rw [HN.out]; exact ho4.put _ hK rfl⟩, hr4⟩
  case hstop =>
    rintro W r r' ⟨r0, er, hi, h1, h2⟩ hb
    simp only [s0]
    have hw := hi.turn HN.out.symm r'
    clear hi hb s0 s1 s2 s3 s4 s5 s6 s7 s8
    generalize W.putObj (N + 8) (.loop r') = W3 at hw ⊢
    have HW := Lib.hid hw
    clear hw
    gi_wp2
    have hK : W3.heap[N + 7]? = some (.deferred (some [])) := HW.out.bo.2
    refine ⟨by simp, .inl ⟨_, _, rfl, run_takeDeferred hK, ?_⟩⟩
    refine ⟨_, ret_two rfl rfl rfl Try.underlying22 rfl Try.underlying28 rfl (box_cell ((World.putObj_heap_other (by omega)).trans HW.out.bl)) (box_cell ((World.putObj_heap_other (by omega)).trans HW.out.be)), grown_shut HW.out.bel HN.out, ?_⟩
    rw [h2]
    exact ⟨rfl, h1⟩

end Go.Proofs.Ytfpfgckakppllaa.code
