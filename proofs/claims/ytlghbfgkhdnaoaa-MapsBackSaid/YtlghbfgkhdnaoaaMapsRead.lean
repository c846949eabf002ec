/- A text read as a change: Whole, whatever it says; Decode. -/
import Derived.Test.YtlghbfgkhdnaoaaRows
import Derived.Test.YtlghbfgkhdnaoaaMapsRep
import Derived.Test.YtlghbfgkhdnaoaaMapsText
import Derived.Test.YtlghbfgkhdnaoaaCodeReadK
import Derived.BigQuiet
import Derived.StillTailTactics
namespace Go.Proofs.Ytlghbfgkhdnaoaa.crush
open Go.RowKit
open Go.Proofs.Ytlghbfgkhdnaoaa.kit Go.Proofs.Ytlghbfgkhdnaoaa.own
open Go.Proofs.Ytlghbfgkhdnaoaa.cm (Fld txtN)
open Go.Proofs.Ytlghbfgkhdnaoaa.code (fcells infoFz SlF SlB SlK OwnF rA rField ReadS Read_any str_bytes)
set_option linter.unusedVariables false

/-- What 'Whole' says. -/
def WholeG (w : World) (R0 : Except Int (List Fld × List Nat)) (e : Ending) (w' : World) : Prop :=
  Below w.heap.size w w' ∧
    match R0 with
    | .ok (fs, []) => ∃ v, e = .returned (.tuple #[v, .int .i64 0]) ∧ OwnF w' w.heap.size v fs
    | .ok (_, _ :: _) => e = .returned (.tuple #[.slice none 0 0, .int .i64 10])
    | .error er => e = .returned (.tuple #[.slice none 0 0, .int .i64 er]) ∧ er ≠ 0

set_option maxHeartbeats 4000000 in
set_option maxRecDepth 100000 in
theorem wholeG_any (bv kv : Value) (bs : List Nat) (ks : List Int) (w : World) (hb : SlB w bv bs (fun _ => True)) (h8 : ∀ c ∈ bs, c < 256) (hk : SlK w kv ks) (hlen : ks.length ≤ 1000000000000) :
    Calls Try.prog 34 #[bv, kv] w (WholeG w (rA rField [] ks bs)) := by
  have HR := Lib.hid (Read_any bv kv bs ks w hb h8 hk hlen)
  obtain ⟨hl, a, cap, rfl, hle, _⟩ := hb
  clear h8 hk hlen
  obtain ⟨R0, hR0⟩ : ∃ R0, rA rField [] ks bs = R0 := ⟨_, rfl⟩
  rw [hR0] at HR ⊢
  clear hR0
  cases R0 with
  | error er =>
    go_enter Try.func34, Try.ntmps34
    go_wp2_with fail
    refine HR.out.mono ?_
    rintro e w1 ⟨hb1, rfl, hne⟩
    have HB1 := Lib.hid hb1
    have hne' : True → (er != 0) = true := fun _ => by simpa using hne
    have HNe := Lib.hid hne
    clear hb1 hne HR
    go_wp2
    go_ret2
    exact ⟨HB1.out, rfl, HNe.out⟩
  | ok q =>
    obtain ⟨fs, rr⟩ := q
    cases rr with
    | nil =>
      go_enter Try.func34, Try.ntmps34
      go_wp2_with fail
      refine HR.out.mono ?_
      rintro e w1 ⟨hb1, v, rfl, ho⟩
      have HB1 := Lib.hid hb1; have HO := Lib.hid ho
      rw [show ((bs.length : Int) - (([] : List Nat).length : Int)) = (bs.length : Int) by simp]
      have hn : ¬ ((bs.length : Int) < (bs.length : Int)) := by omega
      clear hb1 ho HR
      go_wp2
      go_ret2
      exact ⟨HB1.out, v, rfl, HO.out⟩
    | cons c r =>
      go_enter Try.func34, Try.ntmps34
      go_wp2_with fail
      refine HR.out.mono ?_
      rintro e w1 ⟨hb1, v, rfl, ho⟩
      have HB1 := Lib.hid hb1
      obtain ⟨z, hz⟩ : ∃ z : Int, ((bs.length : Int) - ((c :: r).length : Int)) = z := ⟨_, rfl⟩
      have hn : z < (bs.length : Int) := by rw [← hz, List.length_cons]; omega
      rw [hz]
      clear hb1 ho HR hz
      go_wp2
      go_ret2
      exact ⟨HB1.out, rfl⟩

theorem slK_of {w : World} {v : Value} {ks : List Int} (h : Sl ic 1 w v ks) : SlK w v ks := by
  obtain ⟨hl, a, cap, rfl, hn, hc⟩ := h
  refine ⟨hl, a, cap, rfl, fun h0 => ?_⟩
  obtain ⟨b, off, rfl, hlt, hcell⟩ := hc h0
  refine ⟨b, off, rfl, fun j hj => ?_⟩
  have := icell_at (hcell j hj)
  rw [Nat.mul_one] at this
  rw [List.getD_eq_getElem?_getD, List.getElem?_eq_getElem hj]
  exact this
theorem slF_to {w : World} {B : Nat} {v : Value} {fs : List Fld} (h : OwnF w B v fs) : Own fcells 4 93 w B v fs := h
theorem rA_len {rd : Int → List Nat → Except Int (Fld × List Nat)} : ∀ (ks : List Int) (acc : List Fld) (bs : List Nat) (fs : List Fld) (r : List Nat), rA rd acc ks bs = .ok (fs, r) → fs.length = acc.length + ks.length
  | [], acc, bs, fs, r, h => by
    have : (acc, bs) = (fs, r) := by simpa [rA] using h
    cases this; simp
  | k :: ks, acc, bs, fs, r, h => by
    rw [rA] at h
    cases hq : rd k bs with
    | error e => rw [hq] at h; cases h
    | ok q =>
      obtain ⟨f, r'⟩ := q
      rw [hq] at h
      have := rA_len ks (acc ++ [f]) r' fs r h
      rw [this, List.length_append]; simp; omega

def incOfL (fs : List Fld) : IncV := ⟨(fs.getD 0 ⟨0, 0, { data := #[] }, false⟩).num, (fs.getD 1 ⟨0, 0, { data := #[] }, false⟩).num, (fs.getD 2 ⟨0, 0, { data := #[] }, false⟩).num, (fs.getD 3 ⟨0, 0, { data := #[] }, false⟩).num,
  ⟨(fs.getD 4 ⟨0, 0, { data := #[] }, false⟩).num, (fs.getD 5 ⟨0, 0, { data := #[] }, false⟩).num, (fs.getD 6 ⟨0, 0, { data := #[] }, false⟩).num, (fs.getD 7 ⟨0, 0, { data := #[] }, false⟩).num⟩⟩
set_option maxHeartbeats 4000000 in
theorem num_any (N : Nat) (b off cap : Nat) (i : Nat) (hi : i < 8) (n : Int) (w : World) (hN : w.cell? ⟨N, 0, none⟩ = some (.slice (some ⟨b, off, none⟩) 8 cap)) (hc : w.cell? ⟨b, off + i * 4 + 1, none⟩ = some (.int .i64 n)) :
    Calls Try.prog 60 #[.int .i64 i, .pointer (some ⟨N, 0, none⟩)] w fun e w' => e = .returned (.int .i64 n) ∧ w' = w := by
  have hi' : (i : Int) < 8 := by omega
  have hi0 : (0 : Int) ≤ i := by omega
  go_enter Try.func60, Try.ntmps60
  go_wp2
  go_ret
  exact ⟨rfl, rfl⟩

theorem IBx.thaw {W : World} {N : Nat} {c : IncV} (h : IBx W N c) (j : Nat) : W.frozen? ⟨N, j, none⟩ = false := by
  unfold IBx at h
  simp [World.frozen?, h]
theorem IBx.there {W : World} {N : Nat} {c : IncV} (h : IBx W N c) : W.there N 0 8 := by
  unfold IBx at h
  intro j hj
  match j, hj with
  | 0, _ => simp [World.cell?, World.frozen?, h]
  | 1, _ => simp [World.cell?, World.frozen?, h]
  | 2, _ => simp [World.cell?, World.frozen?, h]
  | 3, _ => simp [World.cell?, World.frozen?, h]
  | 4, _ => simp [World.cell?, World.frozen?, h]
  | 5, _ => simp [World.cell?, World.frozen?, h]
  | 6, _ => simp [World.cell?, World.frozen?, h]
  | 7, _ => simp [World.cell?, World.frozen?, h]
theorem IBx.put {W : World} {N : Nat} {c : IncV} (h : IBx W N c) (c' : IncV) : IBx (W.setCells N 0 c'.cells) N c' := heap_setCells N _ c'.cells 0 W _ h
theorem IncV.one (c : IncV) : ∀ v ∈ c.cells, v.oneCell' = true := by
  intro v hv
  simp only [IncV.cells, List.mem_cons, List.not_mem_nil, or_false] at hv
  rcases hv with rfl | rfl | rfl | rfl | rfl | rfl | rfl | rfl <;> rfl
theorem IBx.range {W : World} {N : Nat} {c : IncV} (h : IBx W N c) : W.rangeAt N 0 [.int .i64 c.kind, .int .i64 c.osd, .int .i64 c.client, .int .i64 c.num, .int .i64 c.pool.size, .int .i64 c.pool.min, .int .i64 c.pool.pgs, .int .i64 c.pool.dom] := cells_range (l := [.int .i64 c.kind, .int .i64 c.osd, .int .i64 c.client, .int .i64 c.num, .int .i64 c.pool.size, .int .i64 c.pool.min, .int .i64 c.pool.pgs, .int .i64 c.pool.dom]) h

set_option maxHeartbeats 16000000 in
set_option maxRecDepth 100000 in
theorem incOf_any (v : Value) (fs : List Fld) (hf : fs.length = 8) (w : World) (h : Sl fcells 4 w v fs) : Calls Try.prog 36 #[v] w fun e w' => e = .returned (incOfL fs).val ∧ Below w.heap.size w w' := by
  obtain ⟨hl, a, cap, rfl, hnil, hc⟩ := id h
  obtain ⟨b, off, rfl, hlt, hcell⟩ := hc (by omega)
  rw [hf]
  have hmf : ∀ (fn : Fn) (first cap : Array Value) (w : World), (Instr.makeFunc fn first cap).run Try.prog w = .ok (.func fn first cap) w := fun _ _ _ _ => rfl
  have mixed : Try.prog.follows .mixedOrders = true := by kernel_rfl
  have HC : Hid (∀ i, i < 8 → ∀ u, Below w.heap.size w u → u.cell? ⟨b, off + i * 4 + 1, none⟩ = some (.int .i64 (fs.getD i ⟨0, 0, { data := #[] }, false⟩).num)) := Lib.hid (fun i hi u hu => by
    have h1 := (hcell i (by omega)) 1 _ rfl
    have h2 : fs.getD i ⟨0, 0, { data := #[] }, false⟩ = fs[i]'(by omega) := by rw [List.getD_eq_getElem?_getD, List.getElem?_eq_getElem (by omega)]; rfl
    rw [h2]
    exact (hu.cell (p := ⟨b, off + i * 4 + 1, none⟩) hlt).trans h1)
  unfold incOfL IncV.val
  simp only
  obtain ⟨n0, h0⟩ : ∃ n, (fs.getD 0 ⟨0, 0, { data := #[] }, false⟩).num = n := ⟨_, rfl⟩
  obtain ⟨n1, h1⟩ : ∃ n, (fs.getD 1 ⟨0, 0, { data := #[] }, false⟩).num = n := ⟨_, rfl⟩
  obtain ⟨n2, h2⟩ : ∃ n, (fs.getD 2 ⟨0, 0, { data := #[] }, false⟩).num = n := ⟨_, rfl⟩
  obtain ⟨n3, h3⟩ : ∃ n, (fs.getD 3 ⟨0, 0, { data := #[] }, false⟩).num = n := ⟨_, rfl⟩
  obtain ⟨n4, h4⟩ : ∃ n, (fs.getD 4 ⟨0, 0, { data := #[] }, false⟩).num = n := ⟨_, rfl⟩
  obtain ⟨n5, h5⟩ : ∃ n, (fs.getD 5 ⟨0, 0, { data := #[] }, false⟩).num = n := ⟨_, rfl⟩
  obtain ⟨n6, h6⟩ : ∃ n, (fs.getD 6 ⟨0, 0, { data := #[] }, false⟩).num = n := ⟨_, rfl⟩
  obtain ⟨n7, h7⟩ : ∃ n, (fs.getD 7 ⟨0, 0, { data := #[] }, false⟩).num = n := ⟨_, rfl⟩
  have HC0 := Lib.hid (HC.out 0 (by omega)); have HC1 := Lib.hid (HC.out 1 (by omega)); have HC2 := Lib.hid (HC.out 2 (by omega)); have HC3 := Lib.hid (HC.out 3 (by omega))
  have HC4 := Lib.hid (HC.out 4 (by omega)); have HC5 := Lib.hid (HC.out 5 (by omega)); have HC6 := Lib.hid (HC.out 6 (by omega)); have HC7 := Lib.hid (HC.out 7 (by omega))
  rw [h0] at HC0 ⊢; rw [h1] at HC1 ⊢; rw [h2] at HC2 ⊢; rw [h3] at HC3 ⊢; rw [h4] at HC4 ⊢; rw [h5] at HC5 ⊢; rw [h6] at HC6 ⊢; rw [h7] at HC7 ⊢
  clear HC h hl hnil hc hlt hcell hf h0 h1 h2 h3 h4 h5 h6 h7
  go_enter Try.func36, Try.ntmps36
  go_upto_region 2 with fail
  have hb1 : Below w.heap.size w (w.alloc (.cells #[.slice (some ⟨b, off, none⟩) 8 cap] 64)) := below_new w _
  have hb2 : Below w.heap.size w ((w.alloc (.cells #[.slice (some ⟨b, off, none⟩) 8 cap] 64)).alloc (.cells #[.int .i64 0, .int .i64 0, .int .i64 0, .int .i64 0, .int .i64 0, .int .i64 0, .int .i64 0, .int .i64 0] 35)) := hb1.alloc (by simp) _
  have hk := alloc_at w (.cells #[.slice (some ⟨b, off, none⟩) 8 cap] 64)
  have hr := alloc_at (w.alloc (.cells #[.slice (some ⟨b, off, none⟩) 8 cap] 64)) (.cells #[.int .i64 0, .int .i64 0, .int .i64 0, .int .i64 0, .int .i64 0, .int .i64 0, .int .i64 0, .int .i64 0] 35)
  rw [World.size_alloc] at hr
  have hk2 := ((below_new (w.alloc (.cells #[.slice (some ⟨b, off, none⟩) 8 cap] 64)) (.cells #[.int .i64 0, .int .i64 0, .int .i64 0, .int .i64 0, .int .i64 0, .int .i64 0, .int .i64 0, .int .i64 0] 35)).block w.heap.size (by simp)).trans hk
  have HB2 := Lib.hid hb2; have HR := Lib.hid hr; have HK2 := Lib.hid hk2
  clear hb1 hk hb2 hr hk2
  generalize ((w.alloc (.cells #[.slice (some ⟨b, off, none⟩) 8 cap] 64)).alloc (.cells #[.int .i64 0, .int .i64 0, .int .i64 0, .int .i64 0, .int .i64 0, .int .i64 0, .int .i64 0, .int .i64 0] 35)) = W at HB2 HR HK2 ⊢
  have c0 := HC0.out W HB2.out; have c1 := HC1.out W HB2.out; have c2 := HC2.out W HB2.out; have c3 := HC3.out W HB2.out
  have c4 := HC4.out W HB2.out; have c5 := HC5.out W HB2.out; have c6 := HC6.out W HB2.out; have c7 := HC7.out W HB2.out
  have k0 := box_cell HK2.out
  have HNum := Lib.hid (fun (i : Nat) (hi : i < 8) n (hc : W.drew.cell? ⟨b, off + i * 4 + 1, none⟩ = some (.int .i64 n)) => num_any w.heap.size b off cap i hi n W.drew k0 hc)
  have HQ0 := Lib.hid (show Calls Try.prog 60 #[.int .i64 0, .pointer (some ⟨w.heap.size, 0, none⟩)] W.drew (fun e w' => e = .returned (.int .i64 n0) ∧ w' = W.drew) from HNum.out 0 (by omega) n0 c0)
  have HQ1 := Lib.hid (show Calls Try.prog 60 #[.int .i64 1, .pointer (some ⟨w.heap.size, 0, none⟩)] W.drew (fun e w' => e = .returned (.int .i64 n1) ∧ w' = W.drew) from HNum.out 1 (by omega) n1 c1)
  have HQ2 := Lib.hid (show Calls Try.prog 60 #[.int .i64 2, .pointer (some ⟨w.heap.size, 0, none⟩)] W.drew (fun e w' => e = .returned (.int .i64 n2) ∧ w' = W.drew) from HNum.out 2 (by omega) n2 c2)
  have HQ4 := Lib.hid (show Calls Try.prog 60 #[.int .i64 4, .pointer (some ⟨w.heap.size, 0, none⟩)] W.drew (fun e w' => e = .returned (.int .i64 n4) ∧ w' = W.drew) from HNum.out 4 (by omega) n4 c4)
  have HQ5 := Lib.hid (show Calls Try.prog 60 #[.int .i64 5, .pointer (some ⟨w.heap.size, 0, none⟩)] W.drew (fun e w' => e = .returned (.int .i64 n5) ∧ w' = W.drew) from HNum.out 5 (by omega) n5 c5)
  have HQ6 := Lib.hid (show Calls Try.prog 60 #[.int .i64 6, .pointer (some ⟨w.heap.size, 0, none⟩)] W.drew (fun e w' => e = .returned (.int .i64 n6) ∧ w' = W.drew) from HNum.out 6 (by omega) n6 c6)
  have HQ7 := Lib.hid (show Calls Try.prog 60 #[.int .i64 7, .pointer (some ⟨w.heap.size, 0, none⟩)] W.drew (fun e w' => e = .returned (.int .i64 n7) ∧ w' = W.drew) from HNum.out 7 (by omega) n7 c7)
  clear HC0 HC1 HC2 HC3 HC4 HC5 HC6 HC7 HNum
  clear c0 c1 c2 c4 c5 c6 c7
  go_still_tail 20, (by kernel_rfl)
  still_call HQ0.out
  repeat still_step
  still_call HQ1.out
  repeat still_step
  still_call HQ2.out
  repeat still_step
  still_call HQ4.out
  repeat still_step
  still_call HQ5.out
  repeat still_step
  still_call HQ6.out
  repeat still_step
  still_call HQ7.out
  repeat still_step
  refine wpStill_nil ?_
  change wpList _ _ _ _ _ W.drew
  have HI := Lib.hid (show IBx W.drew (w.heap.size + 1) ⟨0, 0, 0, 0, ⟨0, 0, 0, 0⟩⟩ from HR.out)
  have hT := HI.out.there
  have HF := Lib.hid (HI.out.put ⟨n0, n1, n2, n3, ⟨n4, n5, n6, n7⟩⟩)
  have HBf := Lib.hid (Below.setCells (below_drew HB2.out) (b := w.heap.size + 1) (by omega) 0 (IncV.cells ⟨n0, n1, n2, n3, ⟨n4, n5, n6, n7⟩⟩))
  refine wpList_store_mid rfl 35 (.tmp 2) (.tmp 24) rfl (w.heap.size + 1) 0 (IncV.cells ⟨n0, n1, n2, n3, ⟨n4, n5, n6, n7⟩⟩).toArray rfl rfl hT sizeInc (all_oneCell_toArray (IncV.one _)) ?_
  generalize W.drew.setCells (w.heap.size + 1) 0 _ = W9 at HF HBf ⊢
  clear k0 c3 hT
  go_wp2_with fail
  refine bodyPost_ret (ret_cell rfl rfl HF.out.range Try.underlying35 rfl sizeInc) rfl ?_
  exact ⟨rfl, HBf.out⟩
end Go.Proofs.Ytlghbfgkhdnaoaa.crush
