/- The document's Load. -/
import Derived.Test.YtmipjhbbbpcdlaaRows
import Derived.Test.YtmipjhbbbpcdlaaSectorRNew
import Derived.Test.YtmipjhbbbpcdlaaSectorLoad
namespace Go.Proofs.Ytmipjhbbbpcdlaa.sector
open Go.RowKit
open Go.Proofs.Ytmipjhbbbpcdlaa.kit Go.Proofs.Ytmipjhbbbpcdlaa.own
set_option linter.unusedVariables false
set_option linter.unusedSimpArgs false

def RLoadAt (w : World) (n : Nat) (ns : List Nat) (e : Ending) (w' : World) : Prop := ∃ d, e = .returned (.pointer (some ⟨d, 0, none⟩)) ∧ RAt w' (Fresh w w') d (loaded n ns) ∧ Below w.heap.size w w'

theorem RLies.widen {w : World} {Z Z' : Nat → Prop} {d : Nat} {m : Dev} {vd vc : Value} {pk : Nat} (h : RLies w Z d m vd vc pk) (hz : ∀ k, Z k → Z' k) (hl : ∀ k, Z' k → k < w.heap.size) : RLies w Z' d m vd vc pk :=
  ⟨h.box, h.down, h.cache, h.pick, hz _ h.zd, fun g hg => hz _ (h.zo g hg), fun g hg => hz _ (h.zc g hg), hl⟩
theorem RLies.load {w : World} {Z : Nat → Prop} {d : Nat} {m : Dev} {g N cap : Nat} {vc : Value} {pk : Nat} {cur : Array Value} (h : RLies w Z d m (.slice (some ⟨g, 0, none⟩) N cap) vc pk) (ns : List Nat) (hl : ns.length = N)
    (hg : w.heap[g]? = some (.cells cur 5 (0, 0))) (hN : N ≤ cap) (hm : cap ≤ maxLen) (hs : cur.size = cap) :
    RLies (w.setRow g (cur.toList.take 0 ++ (bv ns ++ cur.toList.drop (0 + (bv ns).length))).toArray) Z d { m with laid := ns } (.slice (some ⟨g, 0, none⟩) N cap) vc pk ∧
    Turn Z w (w.setRow g (cur.toList.take 0 ++ (bv ns ++ cur.toList.drop (0 + (bv ns).length))).toArray) := by
  have hd := h.down
  have n1 := own_ne (e' := 82) hd h.cache (by decide) (g := g) rfl
  have n2 := own_ne_box hd h.box (by decide)
  have n3 : d ≠ g := fun e => n2 (by rw [e]; rfl)
  have hb : (bv ns).length = N := by rw [bv_len]; exact hl
  refine ⟨⟨(setRow_other w g d _ n3).trans h.box, ?_, own_stays h.cache (fun q hq => setRow_other w g q _ (fun e => n1 (e ▸ hq))), h.pick, h.zd, h.zo, h.zc, fun q hq => Nat.lt_of_lt_of_le (h.zlt q hq) (by simp [World.setRow])⟩, ⟨rfl, rfl, rfl, by simp [World.setRow], fun k hk hn => setRow_other w g k _ (fun e => hn (e ▸ h.zo g rfl))⟩⟩
  show World.ownsRow _ 0 _ 1 _ _ _
  refine ⟨by simp, .inr ⟨g, cap, _, by rw [hl], Nat.zero_le _, setRow_heap w g cur _ _ _ hg, (by show ns.length ≤ cap; omega), hm, ?_, ?_⟩⟩
  · have : cur.toList.length = cap := by simpa using hs
    simp only [List.size_toArray, List.length_append, List.length_take, List.length_drop, hb]
    omega
  · simp only [List.take_zero, List.nil_append]
    rw [List.take_append_of_le_length (by rw [hb]; omega), List.take_of_length_le (by rw [hb]; omega)]
    rfl

set_option maxHeartbeats 1000000 in
set_option maxRecDepth 100000 in
theorem rLoad_ok (w : World) (v : Value) (ns : List Nat) (n : Nat) (hv : SlI w .u8 v ns) (h8 : ∀ x ∈ ns, x < 256) (hl : ns.length = 64 * n) (h1 : 1 ≤ n) (hn : n ≤ 4096) :
    Calls Try.prog 14 #[v] w (RLoadAt w n ns) := by
  obtain ⟨hlm, a, cap, rfl, hc⟩ := id hv
  obtain ⟨b, off, rfl, hcell⟩ := hc (by omega)
  have H8 := Lib.hid h8; have HLn := Lib.hid hl; have HC := Lib.hid hcell
  obtain ⟨L, hL⟩ : ∃ L, ns.length = L := ⟨_, rfl⟩
  have HL := Lib.hid hL
  rw [hL] at hlm hl ⊢
  have e1 : True → ((L : Int) % 64 != 0) = false := fun _ => by
    rw [bne_eq_false_iff_eq]; omega
  have e2 : True → (L : Int) / 64 = (n : Int) := fun _ => by omega
  clear hv hc h8 hcell hL
  go_enter Try.func14, Try.ntmps14
  go_wp2_with fail
  have HLl := Lib.hid hl
  clear e1 e2 hl
  refine (rNew_ok w n h1 hn).mono ?_
  rintro e w1 ⟨d, rfl, hr, hb1⟩
  have HB1 := Lib.hid hb1
  have HZf := Lib.hid (show ∀ k, Fresh w w1 k → w.heap.size ≤ k from fun k hk => hk.elim False.elim (·.1))
  have HZ2 := Lib.hid (show ∀ k, Fresh w w1 k → k < w1.heap.size from fun k hk => hk.elim False.elim (·.2))
  generalize Fresh w w1 = Z at hr HZf HZ2
  obtain ⟨ho, vd, vc, pk, hh⟩ := hr
  have hlen : (fresh n).laid.length = L := by have := HLl.out; simp [fresh]; omega
  have hdn := hh.down
  unfold OwnI at hdn
  rw [hlen] at hdn
  rcases hdn.2 with ⟨_, h0⟩ | ⟨g, cp, cur, rfl, _, hg, hc1, hc2, hc3, hc4⟩
  · have := HLl.out; omega
  rw [Nat.mul_one] at hc3
  have c1 := hh.cell 1
  simp [rCells] at c1
  have HF := Lib.hid (hh.load ns (by rw [HL.out]) hg hc1 hc2 hc3)
  have HG := Lib.hid hg
  have HS := Lib.hid hc3; have HCL := Lib.hid hc1
  clear hh hg hdn ho hb1 hlen hc1 hc2 hc3 hc4
  go_wp2_with (refine wpList_copy_own (o := ⟨some 19, _, _, _, _, _⟩) rfl (.tmp 17) (.tmp 18) 28 28 rfl 5 Try.underlying28 infoByte1 g 0 L cp ⟨b, off, none⟩ L cap rfl rfl cur 5 HG.out (bv ns) ?_ ?_ ?_ (bv_one _) ?_)
  case refine_1 =>
    show _ = min L L
    rw [bv_len, HL.out, Nat.min_self]
  case refine_2 =>
    intro j v hj
    have hjl : j < ns.length := by have := (List.getElem?_eq_some_iff.1 hj).1; rwa [bv_len] at this
    rw [bv_at ns j hjl] at hj
    cases hj
    have h := HC.out j hjl
    rw [add_plain']
    exact (HB1.out.cell (p := ⟨b, off + j, none⟩) (cell_lt h)).trans h
  case refine_3 =>
    have h1 := HS.out; have h2 := HCL.out; have h3 := HL.out
    rw [bv_len]; omega
  have hf := HF.out
  simp only [List.take_zero, List.nil_append, Nat.zero_add, bv_len] at hf
  obtain ⟨f1, f2⟩ := hf
  have F1 := Lib.hid f1; have F2 := Lib.hid f2
  clear f1 f2 HF
  generalize w1.setRow g _ = w2 at F1 F2 ⊢
  go_ret
  refine ⟨d, rfl, ⟨loaded_ok hn HLn.out H8.out, _, vc, pk, RLies.widen F1.out ?_ ?_⟩, Turn.below HB1.out F2.out HB1.out.size HZf.out⟩
  · intro k hk
    exact .inr ⟨HZf.out k hk, Nat.lt_of_lt_of_le (HZ2.out k hk) F2.out.size⟩
  · intro k hk
    exact hk.elim False.elim (·.2)

set_option maxRecDepth 100000 in
theorem rLoad_form (w : World) (a : Option Addr) (L c : Nat) (h : ¬ L % 64 = 0) :
    Calls Try.prog 14 #[.slice a L c] w fun e w' => e = .returned (.pointer none) ∧ w = w' := by
  have e1 : True → ((L : Int) % 64 != 0) = true := fun _ => by
    rw [bne_iff_ne]; omega
  clear h
  go_enter Try.func14, Try.ntmps14
  go_wp2
  go_ret
  exact ⟨rfl, rfl⟩

set_option maxRecDepth 100000 in
theorem rLoad_count (w : World) (a : Option Addr) (L c n : Nat) (hlm : L ≤ 9223372036854775807) (hl : L = 64 * n) (h : n < 1 ∨ 4096 < n) :
    Calls Try.prog 14 #[.slice a L c] w fun e w' => e = .returned (.pointer none) ∧ w = w' := by
  have e1 : True → ((L : Int) % 64 != 0) = false := fun _ => by
    rw [bne_eq_false_iff_eq]; omega
  have e2 : True → (L : Int) / 64 = (n : Int) := fun _ => by omega
  have e3 : True → wrap64 (n : Int) = (n : Int) := fun _ => by simp [wrap64]; omega
  have HN := Lib.hid (rNew_bad w (n : Int) (by omega))
  clear hl h
  go_enter Try.func14, Try.ntmps14
  go_wp2_with fail
  refine HN.out.mono ?_
  rintro e w' ⟨rfl, rfl⟩
  go_wp2
  go_ret
  exact ⟨rfl, rfl⟩

end Go.Proofs.Ytmipjhbbbpcdlaa.sector
