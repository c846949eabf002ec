/- Decode. -/
import Derived.Test.YtlghbfgkhdnaoaaRows
import Derived.Test.YtlghbfgkhdnaoaaMapsRead
namespace Go.Proofs.Ytlghbfgkhdnaoaa.crush
open Go.RowKit
open Go.Proofs.Ytlghbfgkhdnaoaa.kit Go.Proofs.Ytlghbfgkhdnaoaa.own
open Go.Proofs.Ytlghbfgkhdnaoaa.cm (Fld txtN)
open Go.Proofs.Ytlghbfgkhdnaoaa.code (fcells infoFz SlF SlB SlK OwnF rA rField ReadS Read_any str_bytes)
set_option linter.unusedVariables false

def incZ : IncV := ⟨0, 0, 0, 0, ⟨0, 0, 0, 0⟩⟩
/-- What a text is read as. -/
def decR (R0 : Except Int (List Fld × List Nat)) : Int × IncV :=
  match R0 with
  | .ok (fs, []) => if okInc (incOfL fs) then (0, incOfL fs) else (14, incZ)
  | _ => (10, incZ)
def decB (bs : List Nat) : Int × IncV := decR (rA rField [] [1, 1, 1, 1, 1, 1, 1, 1] bs)
def DecS (w : World) (r : Int × IncV) (e : Ending) (w' : World) : Prop := e = .returned (.tuple #[r.2.val, .int .i64 r.1]) ∧ Below w.heap.size w w'
theorem txtN_8 (s : ByteArray) : ∀ c ∈ txtN s, c < 256 := by
  intro c hc
  obtain ⟨b, _, rfl⟩ := List.mem_map.1 hc
  exact b.toNat_lt

set_option maxHeartbeats 16000000 in
set_option maxRecDepth 100000 in
theorem Decode_any (s : ByteArray) (hs : s.size ≤ 100000000000) (w : World) : Calls Try.prog 14 #[.string s] w (DecS w (decB (txtN s))) := by
  -- the result's box
  have hb1 := below_new w (.cells #[.int .i64 0, .int .i64 0, .int .i64 0, .int .i64 0, .int .i64 0, .int .i64 0, .int .i64 0, .int .i64 0] 35)
  have HI1 := Lib.hid (ibx_new w incZ)
  have HB1 := Lib.hid hb1
  generalize hW1 : (w.alloc (.cells #[.int .i64 0, .int .i64 0, .int .i64 0, .int .i64 0, .int .i64 0, .int .i64 0, .int .i64 0, .int .i64 0] 35)) = W1 at HB1
  have HI1' := Lib.hid (show IBx W1 w.heap.size incZ from by rw [← hW1]; exact HI1.out)
  obtain ⟨cp, W2, hcv, hsb, hb2⟩ := str_bytes W1 s hs
  have hlenB : (txtN s).length = s.size := by unfold txtN; rw [List.length_map, Array.length_toList]; rfl
  have HSB := Lib.hid hsb; have HB2 := Lib.hid hb2
  have hnk := sl_new ic_len W2 1 3 W2.heap.size rfl
  have hb3 := below_new W2 (.cells (ic 1).toArray 3)
  have HNk := Lib.hid hnk; have HB3 := Lib.hid hb3
  have HR := Lib.hid (fun u (h : Sl ic 1 u (.slice (some ⟨W2.heap.size, 0, none⟩) 1 1) [1]) => repeatI _ 1 8 (by omega) (by omega) u h)
  have H8 := Lib.hid (txtN_8 s)
  have HWh := Lib.hid (fun bv kv u (hb : SlB u bv (txtN s) (fun _ => True)) (hk : SlK u kv [1, 1, 1, 1, 1, 1, 1, 1]) => wholeG_any bv kv (txtN s) [1, 1, 1, 1, 1, 1, 1, 1] u hb H8.out hk (by decide))
  obtain ⟨R0, hR0⟩ : ∃ R0, rA rField [] [1, 1, 1, 1, 1, 1, 1, 1] (txtN s) = R0 := ⟨_, rfl⟩
  have HR0 := Lib.hid hR0
  have hdec : decB (txtN s) = decR R0 := by unfold decB; rw [hR0]
  have hlen8 : ∀ fs r, R0 = .ok (fs, r) → fs.length = 8 := fun fs r h => by rw [← hR0] at h; exact rA_len _ _ _ _ _ h
  rw [hdec]
  have HL8 := Lib.hid hlen8
  rw [hR0] at HWh
  clear hb1 hsb hb2 hnk hb3 hR0 hdec hlen8 hs HI1
  go_enter Try.func14, Try.ntmps14
  cases R0 with
  | error er =>
    go_upto_region 2 with (first
      | (go_at_call 35; refine (HR.out _ HNk.out).mono ?_; rintro e w5 ⟨v5, rfl, ho, hb⟩; obtain ⟨a5, c5, rfl⟩ := ho.slice; have HB5 := Lib.hid (HB3.out.trans (hb.mono HB3.out.size)); have HK5 := Lib.hid (slK_of (ho.read ic_len)); clear ho hb)
      | (go_at_call 34; refine (HWh.out _ _ w5 (HSB.out.keep (row := none) ⟨HB5.out.os, HB5.out.tape, HB5.out.output, HB5.out.size, fun k hk _ => HB5.out.block k hk⟩ (fun b _ e => by cases e)) HK5.out).mono ?_; rintro e w6 ⟨hb6, rfl, hne⟩))
    have HB26 := Lib.hid (HB2.out.trans ((HB5.out.trans (hb6.mono HB5.out.size)).mono HB2.out.size))
    have HI6 := Lib.hid (HI1'.out.keep HB26.out)
    have HBw6 := Lib.hid (HB1.out.trans (HB26.out.mono HB1.out.size))
    clear hb6 hcv HSB HWh HR HK5 HNk HB3 HB5 HB2 HB26 H8
    have hne' : True → (er != 0) = true := fun _ => by simpa using hne
    have HNe := Lib.hid hne
    clear hne
    have hT := HI6.out.there
    have HF := Lib.hid (HI6.out.put incZ)
    have HBf := Lib.hid (Below.setCells HBw6.out (b := w.heap.size) (Nat.le_refl _) 0 (IncV.cells incZ))
    go_wp2_with (refine wpList_store_mid rfl 35 _ _ rfl w.heap.size 0 (IncV.cells incZ).toArray rfl rfl hT sizeInc (all_oneCell_toArray (IncV.one _)) ?_)
    refine bodyPost_ret (ret_cell_tmp rfl rfl HF.out.range Try.underlying35 rfl sizeInc) rfl ?_
    exact ⟨rfl, HBf.out⟩
  | ok q =>
    obtain ⟨fs, rr⟩ := q
    cases rr with
    | cons c r =>
      go_upto_region 2 with (first
        | (go_at_call 35; refine (HR.out _ HNk.out).mono ?_; rintro e w5 ⟨v5, rfl, ho, hb⟩; obtain ⟨a5, c5, rfl⟩ := ho.slice; have HB5 := Lib.hid (HB3.out.trans (hb.mono HB3.out.size)); have HK5 := Lib.hid (slK_of (ho.read ic_len)); clear ho hb)
        | (go_at_call 34; refine (HWh.out _ _ w5 (HSB.out.keep (row := none) ⟨HB5.out.os, HB5.out.tape, HB5.out.output, HB5.out.size, fun k hk _ => HB5.out.block k hk⟩ (fun b _ e => by cases e)) HK5.out).mono ?_; rintro e w6 ⟨hb6, rfl⟩))
      have HB26 := Lib.hid (HB2.out.trans ((HB5.out.trans (hb6.mono HB5.out.size)).mono HB2.out.size))
      have HI6 := Lib.hid (HI1'.out.keep HB26.out)
      have HBw6 := Lib.hid (HB1.out.trans (HB26.out.mono HB1.out.size))
      clear hb6 hcv HSB HWh HR HK5 HNk HB3 HB5 HB2 HB26 H8
      have hT := HI6.out.there
      have HF := Lib.hid (HI6.out.put incZ)
      have HBf := Lib.hid (Below.setCells HBw6.out (b := w.heap.size) (Nat.le_refl _) 0 (IncV.cells incZ))
      go_wp2_with (refine wpList_store_mid rfl 35 _ _ rfl w.heap.size 0 (IncV.cells incZ).toArray rfl rfl hT sizeInc (all_oneCell_toArray (IncV.one _)) ?_)
      refine bodyPost_ret (ret_cell_tmp rfl rfl HF.out.range Try.underlying35 rfl sizeInc) rfl ?_
      exact ⟨rfl, HBf.out⟩
    | nil =>
      go_upto_region 2 with (first
        | (go_at_call 35; refine (HR.out _ HNk.out).mono ?_; rintro e w5 ⟨v5, rfl, ho, hb⟩; obtain ⟨a5, c5, rfl⟩ := ho.slice; have HB5 := Lib.hid (HB3.out.trans (hb.mono HB3.out.size)); have HK5 := Lib.hid (slK_of (ho.read ic_len)); clear ho hb)
        | (go_at_call 34; refine (HWh.out _ _ w5 (HSB.out.keep (row := none) ⟨HB5.out.os, HB5.out.tape, HB5.out.output, HB5.out.size, fun k hk _ => HB5.out.block k hk⟩ (fun b _ e => by cases e)) HK5.out).mono ?_; rintro e w6 ⟨hb6, v6, rfl, ho6⟩))
      obtain ⟨a6, c6, rfl⟩ := (slF_to ho6).slice
      have HO6 := Lib.hid ((slF_to ho6).read fcells_len)
      have hfl := HL8.out fs [] rfl
      rw [hfl] at HO6 ⊢
      clear ho6
      have HB26 := Lib.hid (HB2.out.trans ((HB5.out.trans (hb6.mono HB5.out.size)).mono HB2.out.size))
      have HI6 := Lib.hid (HI1'.out.keep HB26.out)
      have HBw6 := Lib.hid (HB1.out.trans (HB26.out.mono HB1.out.size))
      clear hb6 hcv HSB HWh HR HK5 HNk HB3 HB5 HB2 HB26 H8
      have HIo := Lib.hid (incOf_any _ fs hfl w6 HO6.out)
      have HIn := Lib.hid (fun u => Inc_any (incOfL fs) u)
      have hdr : decR (.ok (fs, [])) = if okInc (incOfL fs) then (0, incOfL fs) else (14, incZ) := rfl
      obtain ⟨q, hq⟩ : ∃ q, okInc (incOfL fs) = q := ⟨_, rfl⟩
      rw [hq] at HIn hdr
      generalize incOfL fs = cc at HIo HIn hq hdr
      have HDr := Lib.hid hdr
      clear hdr hq hfl HL8 HR0
      have HBn := Lib.hid (fun (u : World) => below_new u (.cells #[.int .i64 cc.kind, .int .i64 cc.osd, .int .i64 cc.client, .int .i64 cc.num, .int .i64 cc.pool.size, .int .i64 cc.pool.min, .int .i64 cc.pool.pgs, .int .i64 cc.pool.dom] 35))
      have HXn := Lib.hid (fun (u : World) => ibx_new u cc)
      unfold IncV.val at HIo HIn
      go_upto_region 5 with (go_at_call 36; refine HIo.out.mono ?_; rintro e w7 ⟨rfl, hb7⟩; have HB7 := Lib.hid (HBw6.out.trans (hb7.mono HBw6.out.size)); have HI7 := Lib.hid (HI6.out.keep hb7); clear hb7)
      have HX8 := Lib.hid (HXn.out w7)
      have HB8 := Lib.hid (HB7.out.trans ((HBn.out w7).mono HB7.out.size))
      have HI8 := Lib.hid (HI7.out.keep (HBn.out w7))
      generalize (w7.alloc (.cells #[.int .i64 cc.kind, .int .i64 cc.osd, .int .i64 cc.client, .int .i64 cc.num, .int .i64 cc.pool.size, .int .i64 cc.pool.min, .int .i64 cc.pool.pgs, .int .i64 cc.pool.dom] 35)) = w8 at HX8 HB8 HI8 ⊢
      obtain ⟨M, hM⟩ : ∃ M, w7.heap.size = M := ⟨_, rfl⟩
      rw [hM] at HX8 ⊢
      obtain ⟨c0, c1, c2, c3, c4, c5, c6, c7⟩ := HX8.out.cells
      clear hM HI7 HB7 HIo HI6 HBw6 HBn HXn
      have hT := HI8.out.there
      have HIz := Lib.hid (fun u (h : IBx u w.heap.size incZ) => h.there)
      clear hT
      cases q with
      | false =>
        go_wp2_with (first
          | (go_at_call 13; refine (HIn.out _).mono ?_; rintro e w9 ⟨rfl, hb⟩; have HB9 := Lib.hid (HB8.out.trans (hb.mono HB8.out.size)); have HI9 := Lib.hid (HI8.out.keep hb); clear hb c0 c1 c2 c3 c4 c5 c6 c7)
          | (refine wpList_store_mid rfl 35 _ _ rfl w.heap.size 0 (IncV.cells incZ).toArray rfl rfl HI9.out.there sizeInc (all_oneCell_toArray (IncV.one _)) ?_))
        refine bodyPost_ret (ret_cell_tmp rfl rfl (HI9.out.put incZ).range Try.underlying35 rfl sizeInc) rfl ?_
        rw [HDr.out]
        exact ⟨rfl, Below.setCells HB9.out (b := w.heap.size) (Nat.le_refl _) 0 (IncV.cells incZ)⟩
      | true =>
        go_wp2_with (first
          | (go_at_call 13; refine (HIn.out _).mono ?_; rintro e w9 ⟨rfl, hb⟩; have HB9 := Lib.hid (HB8.out.trans (hb.mono HB8.out.size)); have HI9 := Lib.hid (HI8.out.keep hb); clear c0 c1 c2 c3 c4 c5 c6 c7; obtain ⟨c0, c1, c2, c3, c4, c5, c6, c7⟩ := (HX8.out.keep hb).cells; clear hb)
          | (refine wpList_store_mid rfl 35 _ _ rfl w.heap.size 0 (IncV.cells cc).toArray rfl rfl HI9.out.there sizeInc (all_oneCell_toArray (IncV.one _)) ?_; clear c0 c1 c2 c3 c4 c5 c6 c7))
        refine bodyPost_ret (ret_cell_tmp rfl rfl (HI9.out.put cc).range Try.underlying35 rfl sizeInc) rfl ?_
        rw [HDr.out]
        exact ⟨rfl, Below.setCells HB9.out (b := w.heap.size) (Nat.le_refl _) 0 (IncV.cells cc)⟩
end Go.Proofs.Ytlghbfgkhdnaoaa.crush
