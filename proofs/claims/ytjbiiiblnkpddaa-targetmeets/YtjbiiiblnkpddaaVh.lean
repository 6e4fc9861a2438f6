/- Bytes that come in as an array. -/
import Derived.Test.YtjbiiiblnkpddaaWv
namespace Go.Proofs.Ytjbiiiblnkpddaa
open Go.ChangeShapes Go.WideShapes Go.ChangeAt Go.RowKit Go.Joins Go.Deep
theorem cells5 : Try.prog.cellsOf 5 = 1 := by kernel_rfl
def byteOf : Value → UInt8
  | .int _ n => UInt8.ofNat n.toNat
  | _ => 0
theorem open_bytes {H : Type} {enc : TypeId × Value → H} {W : World} {base n : Nat} {t : TypeId} {v : Value} {d : DataW H} {p : List MemPlace} (hu : Try.prog.underlying t = some (.array n 5)) (hcs : Try.prog.cellsOf t = n)
    (hv : Value.okWide Try.prog W .any base t v) (h : DataW.Trod enc Try.prog W 0 (fun _ => true) true t v d p) : ∃ l : List UInt8, l.length = n ∧ v = .agg (hc l) := by
  simp only [Value.okWide, hu] at hv
  obtain ⟨cs, rfl, _, _⟩ := hv
  obtain ⟨fuel, hf⟩ := h
  obtain ⟨xs, m, rfl, hx, hlen, hxl, each⟩ := DataW.trod_array hu hf
  rw [hcs] at hlen
  have hsz : cs.size = n := by simpa [Value.cells] using hlen
  refine ⟨cs.toList.map byteOf, by simpa using hsz, ?_⟩
  have : cs = hc (cs.toList.map byteOf) := by
    apply Array.ext
    · rw [hc_size]; simp
    · intro i h1 h2
      have e := each i (by omega)
      rw [cells5, Nat.mul_one] at e
      have hxi : xs[i]? = some (xs[i]'(by omega)) := List.getElem?_eq_getElem (by omega)
      rw [hxi] at e
      obtain ⟨a, ea, _, wa⟩ := DataW.trod_int Try.underlying5 e
      have hab : 0 ≤ a ∧ a ≤ 255 := by simpa [Lit.wf, IntKind.min, IntKind.max, IntKind.signed, IntKind.bits] using wa
      have hc1 : (Value.agg cs).cells.toList.drop i = cs.toList.drop i := by simp [Value.cells]
      rw [hc1, List.drop_eq_getElem_cons (by simpa using h1)] at ea
      simp only [List.take_succ_cons, List.take_zero, List.cons.injEq, and_true] at ea
      have ei : cs[i] = Value.int .u8 a := by simpa using ea
      have e2 : (cs.toList.map byteOf)[i]? = some (UInt8.ofNat a.toNat) := by
        rw [List.getElem?_map, List.getElem?_eq_getElem (by simpa using h1)]
        simp [ei, byteOf]
      have e3 : (hc (cs.toList.map byteOf))[i]? = some (.int .u8 ((UInt8.ofNat a.toNat).toNat : Int)) := by
        rw [hc, List.getElem?_toArray, cellsL, List.getElem?_map, e2]; rfl
      rw [Array.getElem?_eq_getElem h2] at e3
      rw [ei, Option.some.inj e3, UInt8.toNat_ofNat']
      exact congrArg (Value.int .u8) (by omega)
  rw [← this]
/-- A state that comes in. -/
theorem cellH : Try.prog.cellsOf 50 = 32 := by kernel_rfl
theorem open_hash {H : Type} {enc : TypeId × Value → H} {W : World} {base : Nat} {v : Value} {d : DataW H} {p : List MemPlace} (hv : Value.okWide Try.prog W .any base 50 v) (h : DataW.Trod enc Try.prog W 0 (fun _ => true) true 50 v d p) : ∃ l : List UInt8, l.length = 32 ∧ v = .agg (hc l) :=
  open_bytes Try.underlying50 cellH hv h
end Go.Proofs.Ytjbiiiblnkpddaa
