/- Inputs of the laws of sip: keys, and four words. -/
import Derived.Test.YtpjpnkohagcegaaYd
import Derived.ProofKit
import Derived.OpenShut
import Derived.ShutString
import Derived.ChangeOld
import Derived.Below
import Derived.SizedLaws
import Derived.Lib.SmallJoins
namespace Go.Proofs.Ytpjpnkohagcegaa
open Go.ChangeShapes Go.WideShapes Go.ChangeAt Go.RowKit Go.Joins
theorem cellU : Try.prog.cellsOf 22 = 1 := by kernel_rfl
theorem cellI : Try.prog.cellsOf 3 = 1 := by kernel_rfl
theorem cellT : Try.prog.cellsOf 9 = 1 := by kernel_rfl
theorem cellK : Try.prog.cellsOf 24 = 2 := by kernel_rfl
theorem cellQ : Try.prog.cellsOf 25 = 4 := by kernel_rfl
section
variable {H : Type} {enc : TypeId × Value → H} {W : World} {base : Nat} {sp : Nat → Bool} {held : Bool} {fuel : Nat}
theorem trod_u64 {x : Value} {y : DataW H × List MemPlace} (h : DataW.trod enc Try.prog W base sp held fuel 22 [x] = some y) : ∃ a : UInt64, x = .int .u64 (a.toNat : Int) := by
  obtain ⟨n, hn, _, hw⟩ := DataW.trod_int Try.underlying22 h
  have hb : 0 ≤ n ∧ n ≤ 18446744073709551615 := by simpa [Lit.wf, IntKind.min, IntKind.max, IntKind.signed, IntKind.bits] using hw
  refine ⟨UInt64.ofNat n.toNat, ?_⟩
  simp only [List.cons.injEq, and_true] at hn
  rw [hn, UInt64.toNat_ofNat']
  congr 1
  omega
theorem trod_keys {x0 x1 : Value} {y : DataW H × List MemPlace} (h : DataW.trod enc Try.prog W base sp held fuel 24 [x0, x1] = some y) : ∃ k0 k1 : UInt64, x0 = .int .u64 (k0.toNat : Int) ∧ x1 = .int .u64 (k1.toNat : Int) := by
  obtain ⟨y0, y1, n, _, _, h0, h1⟩ := trod_struct2 Try.underlying24 h
  rw [cellU] at h0 h1
  obtain ⟨a, ha⟩ := trod_u64 h0
  obtain ⟨b, hb⟩ := trod_u64 h1
  exact ⟨a, b, ha, hb⟩
theorem trod_words {x0 x1 x2 x3 : Value} {y : DataW H × List MemPlace} (h : DataW.trod enc Try.prog W base sp held fuel 25 [x0, x1, x2, x3] = some y) : ∃ v : Q4, x0 = .int .u64 (v.a.toNat : Int) ∧ x1 = .int .u64 (v.b.toNat : Int) ∧ x2 = .int .u64 (v.c.toNat : Int) ∧ x3 = .int .u64 (v.d.toNat : Int) := by
  obtain ⟨xs, m, _, _, _, hxl, each⟩ := DataW.trod_array Try.underlying25 h
  rw [cellU] at each
  have e0 := each 0 (by omega)
  have e1 := each 1 (by omega)
  have e2 := each 2 (by omega)
  have e3 := each 3 (by omega)
  rw [List.getElem?_eq_getElem (by omega)] at e0 e1 e2 e3
  obtain ⟨a, ha⟩ := trod_u64 e0
  obtain ⟨b, hb⟩ := trod_u64 e1
  obtain ⟨c, hc⟩ := trod_u64 e2
  obtain ⟨d, hd⟩ := trod_u64 e3
  exact ⟨⟨a, b, c, d⟩, ha, hb, hc, hd⟩
end
/-- Keys that come in. -/
theorem open_keys {H : Type} {enc : TypeId × Value → H} {W : World} {base : Nat} {v : Value} {d : DataW H} {p : List MemPlace} (hv : Value.okWide Try.prog W .any base 24 v) (h : DataW.Trod enc Try.prog W 0 (fun _ => true) true 24 v d p) : ∃ k0 k1 : UInt64, v = .agg (qc [k0, k1]) := by
  simp only [Value.okWide, Try.underlying24] at hv
  obtain ⟨cs, rfl, hsz, _⟩ := hv
  rw [cellK] at hsz
  obtain ⟨fuel, hf⟩ := h
  have hc1 : (Value.agg cs).cells.toList = cs.toList := by simp [Value.cells]
  rw [hc1] at hf
  obtain ⟨l⟩ := cs
  match l, hsz with
  | [x0, x1], _ =>
    obtain ⟨k0, k1, rfl, rfl⟩ := trod_keys hf
    exact ⟨k0, k1, rfl⟩
end Go.Proofs.Ytpjpnkohagcegaa
