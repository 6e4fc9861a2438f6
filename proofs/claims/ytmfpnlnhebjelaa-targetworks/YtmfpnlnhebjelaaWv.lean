/- Inputs of the laws of wide: numbers, and lists of numbers. -/
import Derived.Test.YtmfpnlnhebjelaaWl
import Derived.ProofKit
import Derived.OpenShut
import Derived.ShutString
import Derived.ChangeOld
import Derived.Below
import Derived.SizedLaws
import Derived.Lib.SmallJoins
namespace Go.Proofs.Ytmfpnlnhebjelaa
open Go.ChangeShapes Go.WideShapes Go.ChangeAt Go.RowKit Go.Joins Go.Deep
theorem cellU : Try.prog.cellsOf 22 = 1 := by kernel_rfl
theorem cellW : Try.prog.cellsOf 24 = 4 := by kernel_rfl
theorem laidOutW : laidOutB Try.prog = true := by kernel_rfl
def wordOf : Value → Nat
  | .int _ n => n.toNat
  | _ => 0
section
variable {H : Type} {enc : TypeId × Value → H} {W : World} {base : Nat} {sp : Nat → Bool} {held : Bool} {fuel : Nat}
/-- Cells that read as a number are those of a number. -/
theorem wide_cells {cs : List Value} {x : DataW H × List MemPlace} (h : DataW.trod enc Try.prog W base sp held fuel 24 cs = some x) : ∃ m, m < M ∧ cs = (wn m).toList := by
  obtain ⟨xs, m, _, _, hlen, hxl, each⟩ := DataW.trod_array Try.underlying24 h
  rw [cellW] at hlen
  have hw : ∀ i, i < 4 → cs[i]? = some (.int .u64 ((wordOf (cs.getD i undef) : Nat) : Int)) ∧ wordOf (cs.getD i undef) < 18446744073709551616 := by
    intro i hi
    have h1 : i < cs.length := by omega
    have e := each i (by omega)
    rw [cellU, Nat.mul_one, List.drop_eq_getElem_cons h1, List.getElem?_eq_getElem (by omega)] at e
    simp only [List.take_succ_cons, List.take_zero] at e
    obtain ⟨a, ea, _, wa⟩ := DataW.trod_int Try.underlying22 e
    have hab : 0 ≤ a ∧ a ≤ 18446744073709551615 := by simpa [Lit.wf, IntKind.min, IntKind.max, IntKind.signed, IntKind.bits] using wa
    have ei : cs[i] = Value.int .u64 a := by simpa using ea
    have eg : cs.getD i undef = Value.int .u64 a := by rw [List.getD_eq_getElem?_getD, List.getElem?_eq_getElem h1, ei]; rfl
    rw [List.getElem?_eq_getElem h1, ei, eg]
    simp only [wordOf]
    exact ⟨by congr 2; omega, by omega⟩
  refine ⟨vn fun i => wordOf (cs.getD i undef), vn_lt fun i hi => (hw i hi).2, ?_⟩
  rw [wn_vn fun i hi => (hw i hi).2]
  apply List.ext_getElem?
  intro i
  rcases Nat.lt_or_ge i 4 with hi | hi
  · rw [(hw i hi).1, Array.getElem?_toList, nc_at 4 _ i hi]
  · rw [List.getElem?_eq_none (by omega), Array.getElem?_toList, Array.getElem?_eq_none (by rw [nc_size]; exact hi)]
end
/-- A number that comes in. -/
theorem open_wide {H : Type} {enc : TypeId × Value → H} {W : World} {base : Nat} {v : Value} {d : DataW H} {p : List MemPlace} (hv : Value.okWide Try.prog W .any base 24 v) (h : DataW.Trod enc Try.prog W 0 (fun _ => true) true 24 v d p) : ∃ m, m < M ∧ v = .agg (wn m) := by
  simp only [Value.okWide, Try.underlying24] at hv
  obtain ⟨cs, rfl, hsz, _⟩ := hv
  obtain ⟨fuel, hf⟩ := h
  have hc1 : (Value.agg cs).cells.toList = cs.toList := by simp [Value.cells]
  rw [hc1] at hf
  obtain ⟨m, hm, e⟩ := wide_cells hf
  exact ⟨m, hm, by rw [Array.ext' e]⟩
theorem addr_add (g o j : Nat) : (⟨g, o, none⟩ : Addr).add j = ⟨g, o + j, none⟩ := by unfold Addr.add; split <;> simp_all
end Go.Proofs.Ytmfpnlnhebjelaa
