/- A header that comes in. -/
import Derived.Test.YtdkemnjkhclbkaaGreatDoorX44
import Derived.Test.YtdkemnjkhclbkaaGreatDoorX45
namespace Go.Proofs.YtdkemnjkhclbkaaGreatDoor
open Go.ChangeShapes Go.WideShapes Go.ChangeAt Go.RowKit Go.Joins Go.Deep
set_option linter.unusedVariables false
set_option maxRecDepth 100000
section
variable {H : Type} {enc : TypeId × Value → H} {W : World} {base fuel : Nat} {cs : List Value} {x : DataW H × List MemPlace}
theorem cs_head (h : DataW.trod enc Tryz.prog W 0 (fun _ => true) true fuel 26 cs = some x) : ∃ y : Hd, cs = y.cells := by
  obtain ⟨xs, m, _, _, hlen, hxl, each⟩ := DataW.trod_struct Tryz.underlying26 h
  have hx : xs.length = 6 := hxl
  have hl : cs.length = 68 := hlen.trans (by kernel_rfl)
  have h0 : DataW.trod enc Tryz.prog W 0 (fun _ => true) true m 22 ((cs.drop 0).take 1) = some xs[0] := (each 0 _ rfl).trans (List.getElem?_eq_getElem (by omega))
  have h1 : DataW.trod enc Tryz.prog W 0 (fun _ => true) true m 24 ((cs.drop 1).take 32) = some xs[1] := (each 1 _ rfl).trans (List.getElem?_eq_getElem (by omega))
  have h2 : DataW.trod enc Tryz.prog W 0 (fun _ => true) true m 24 ((cs.drop 33).take 32) = some xs[2] := (each 2 _ rfl).trans (List.getElem?_eq_getElem (by omega))
  have h3 : DataW.trod enc Tryz.prog W 0 (fun _ => true) true m 22 ((cs.drop 65).take 1) = some xs[3] := (each 3 _ rfl).trans (List.getElem?_eq_getElem (by omega))
  have h4 : DataW.trod enc Tryz.prog W 0 (fun _ => true) true m 22 ((cs.drop 66).take 1) = some xs[4] := (each 4 _ rfl).trans (List.getElem?_eq_getElem (by omega))
  have h5 : DataW.trod enc Tryz.prog W 0 (fun _ => true) true m 22 ((cs.drop 67).take 1) = some xs[5] := (each 5 _ rfl).trans (List.getElem?_eq_getElem (by omega))
  obtain ⟨n0, e0⟩ := cs_u32 Tryz.underlying22 h0
  obtain ⟨n1, e1⟩ := cs_hash h1
  obtain ⟨n2, e2⟩ := cs_hash h2
  obtain ⟨n3, e3⟩ := cs_u32 Tryz.underlying22 h3
  obtain ⟨n4, e4⟩ := cs_u32 Tryz.underlying22 h4
  obtain ⟨n5, e5⟩ := cs_u32 Tryz.underlying22 h5
  refine ⟨⟨n0, n1.1, n2.1, n3, n4, n5, n1.2, n2.2⟩, ?_⟩
  have := cut_at 1 e0 rfl
  rw [List.drop_zero, cut_at 33 e1 rfl, cut_at 65 e2 rfl, cut_at 66 e3 rfl, cut_at 67 e4 rfl, cut_at 68 e5 rfl, List.drop_of_length_le (by omega), List.append_nil] at this
  rw [this]
  simp [Hd.cells]
end
section
variable {H : Type} {enc : TypeId × Value → H} {W : World} {base : Nat} {v : Value} {d : DataW H} {p : List MemPlace}
theorem open_head (hv : Value.okWide Tryz.prog W .any base 26 v) (h : DataW.Trod enc Tryz.prog W 0 (fun _ => true) true 26 v d p) : ∃ y : Hd, v = .agg y.cells.toArray := by
  simp only [Value.okWide, Tryz.underlying26] at hv
  obtain ⟨cs, rfl, hsz, _⟩ := hv
  obtain ⟨fuel, hf⟩ := h
  have hc1 : (Value.agg cs).cells.toList = cs.toList := by simp [Value.cells]
  rw [hc1] at hf
  obtain ⟨y, e⟩ := cs_head hf
  exact ⟨y, congrArg Value.agg (Array.toList_inj.1 (by rw [e]))⟩
end
end Go.Proofs.YtdkemnjkhclbkaaGreatDoor
