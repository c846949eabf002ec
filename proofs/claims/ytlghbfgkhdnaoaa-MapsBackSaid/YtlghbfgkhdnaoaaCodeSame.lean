/- Two rows that hold the same fields are the same; the kinds of fit fields; 'Whole'. -/
import Derived.Test.YtlghbfgkhdnaoaaRows
import Derived.Test.YtlghbfgkhdnaoaaCodeRFit
import Derived.Test.YtlghbfgkhdnaoaaCodeSize
import Derived.Test.YtlghbfgkhdnaoaaCodeReadK
import Derived.Test.YtlghbfgkhdnaoaaCodeForth
namespace Go.Proofs.Ytlghbfgkhdnaoaa.code
open Go.RowKit
open Go.Proofs.Ytlghbfgkhdnaoaa.kit Go.Proofs.Ytlghbfgkhdnaoaa.cm
set_option linter.unusedVariables false

theorem fit_kind {f : Fld} (h : f.fit = true) : ((f.kind.toNat : Nat) : Int) = f.kind ∧ f.kind.toNat < 256 := by
  rcases fit_cases h with ⟨n, hn, rfl⟩ | ⟨n, rfl⟩ | ⟨n, hn, hx, rfl⟩ | ⟨t, rfl⟩ | ⟨b, rfl⟩ <;> exact ⟨rfl, by simp⟩

/-- A slice of kinds of the call's own, as a row of kinds. -/
theorem OwnI.toK {w : World} {B e : Nat} {v : Value} {fs : List Fld} (hf : ∀ f ∈ fs, f.fit = true) (h : OwnI w B e .i64 v (fs.map fun f => f.kind.toNat)) : SlK w v (fs.map fun f => f.kind) := by
  obtain ⟨hl, a, cap, rfl, hc⟩ := h.read
  rw [List.length_map] at hl hc ⊢
  refine ⟨by rw [List.length_map]; exact hl, a, cap, by rw [List.length_map], fun h0 => ?_⟩
  rw [List.length_map] at h0
  obtain ⟨b, off, rfl, hcell⟩ := hc h0
  refine ⟨b, off, rfl, fun j hj => ?_⟩
  rw [List.length_map] at hj
  rw [hcell j hj]
  have e : (((fs.map fun f => f.kind.toNat).getD j 0 : Nat) : Int) = (fs.map fun f => f.kind).getD j 0 := by
    simp only [List.getD, List.getElem?_map, List.getElem?_eq_getElem hj, Option.map_some, Option.getD_some]
    exact (fit_kind (hf _ (List.getElem_mem hj))).1
  rw [e]

/-- What 'Whole' says of bytes that are just those of some fields. -/
def WholeS (w : World) (fs : List Fld) (e : Ending) (w' : World) : Prop :=
  Below w.heap.size w w' ∧ ∃ v, e = .returned (.tuple #[v, .int .i64 0]) ∧ OwnF w' w.heap.size v fs

set_option maxHeartbeats 4000000 in
set_option maxRecDepth 100000 in
theorem Whole_any (bv kv : Value) (bs : List Nat) (ks : List Int) (fs : List Fld) (w : World) (hb : SlB w bv bs (fun _ => True)) (h8 : ∀ c ∈ bs, c < 256) (hk : SlK w kv ks) (hlen : ks.length ≤ 1000000000000) (hr : rA rField [] ks bs = .ok (fs, [])) :
    Calls Try.prog 34 #[bv, kv] w (WholeS w fs) := by
  have HR := Lib.hid (Read_any bv kv bs ks w hb h8 hk hlen)
  rw [hr] at HR
  obtain ⟨hl, a, cap, rfl, hle, _⟩ := hb
  clear h8 hk hlen hr
  go_enter Try.func34, Try.ntmps34
  go_wp2_with fail
  refine HR.out.mono ?_
  rintro e w1 ⟨hb1, v, rfl, ho⟩
  have HB1 := Lib.hid hb1; have HO := Lib.hid ho
  rw [show ((bs.length : Int) - (([] : List Nat).length : Int)) = (bs.length : Int) by simp]
  have hn : ¬ ((bs.length : Int) < (bs.length : Int)) := by omega
  clear hb1 ho HR
  go_wp2
  go_ret2
  exact ⟨HB1.out, v, rfl, HO.out⟩

end Go.Proofs.Ytlghbfgkhdnaoaa.code
