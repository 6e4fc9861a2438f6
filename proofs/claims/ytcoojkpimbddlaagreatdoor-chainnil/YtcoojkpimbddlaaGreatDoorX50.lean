/- Transactions that come in. A header that comes in. -/
import Derived.Test.YtcoojkpimbddlaaGreatDoorX07
import Derived.ProofKit
import Derived.OpenShut
import Derived.ShutString
import Derived.ChangeOld
import Derived.Below
import Derived.SizedLaws
import Derived.Lib.SmallJoins
import Derived.Test.YtcoojkpimbddlaaGreatDoorX25
namespace Go.Proofs.YtcoojkpimbddlaaGreatDoor
open Go.ChangeShapes Go.WideShapes Go.ChangeAt Go.RowKit Go.Joins Go.Deep
set_option linter.unusedVariables false
set_option maxRecDepth 100000
theorem cut_at {cs p : List Value} {a n : Nat} (b : Nat) (h : (cs.drop a).take n = p) (e : a + n = b) : cs.drop a = p ++ cs.drop b := by
  rw [← h, ← e, ← List.drop_drop, List.take_append_drop]
def byteOf9 : Value → UInt8
  | .int _ n => UInt8.ofNat n.toNat
  | _ => 0
section
variable {H : Type} {enc : TypeId × Value → H} {W : World} {base fuel : Nat} {cs : List Value} {x : DataW H × List MemPlace}
theorem cs_u32 {t : TypeId} (hu : Tryz.prog.underlying t = some (.int .u32)) (h : DataW.trod enc Tryz.prog W 0 (fun _ => true) true fuel t cs = some x) : ∃ n : UInt32, cs = [.int .u32 (n.toNat : Int)] := by
  obtain ⟨a, ea, _, wa⟩ := DataW.trod_int hu h
  have hab : 0 ≤ a ∧ a ≤ 4294967295 := by simpa [Lit.wf, IntKind.min, IntKind.max, IntKind.signed, IntKind.bits] using wa
  refine ⟨UInt32.ofNat a.toNat, ?_⟩
  rw [ea, UInt32.toNat_ofNat', Nat.mod_eq_of_lt (by omega), Int.toNat_of_nonneg hab.1]
theorem cs_bytes {t : TypeId} {n : Nat} (hu : Tryz.prog.underlying t = some (.array n 5)) (hc : Tryz.prog.cellsOf t = n) (h : DataW.trod enc Tryz.prog W 0 (fun _ => true) true fuel t cs = some x) : ∃ l : List UInt8, cs = cellsL l ∧ l.length = n := by
  obtain ⟨xs, m, _, _, hlen, hxl, each⟩ := DataW.trod_array hu h
  rw [hc] at hlen
  refine ⟨cs.map byteOf9, ?_, by simpa using hlen⟩
  apply List.ext_getElem
  · simp [cellsL]
  · intro i h1 h2
    have e := each i (by omega)
    rw [show Tryz.prog.cellsOf 5 = 1 by kernel_rfl, Nat.mul_one, List.drop_eq_getElem_cons h1, List.getElem?_eq_getElem (by omega)] at e
    simp only [List.take_succ_cons, List.take_zero] at e
    obtain ⟨a, ea, _, wa⟩ := DataW.trod_int Tryz.underlying5 e
    have hab : 0 ≤ a ∧ a ≤ 255 := by simpa [Lit.wf, IntKind.min, IntKind.max, IntKind.signed, IntKind.bits] using wa
    have ei : cs[i] = Value.int .u8 a := by simpa using ea
    simp only [cellsL, List.getElem_map]
    rw [ei]
    simp only [byteOf9]
    rw [UInt8.toNat_ofNat']
    exact congrArg (Value.int .u8) (by omega)
theorem cs_hash (h : DataW.trod enc Tryz.prog W 0 (fun _ => true) true fuel 46 cs = some x) : ∃ y : Id32, cs = cellsL y.1 := by
  obtain ⟨l, e, hl⟩ := cs_bytes Tryz.underlying46 (by kernel_rfl) h
  exact ⟨⟨l, hl⟩, e⟩
instance : Inhabited Ti := ⟨zTi⟩
instance : Inhabited Tu := ⟨zTu⟩
end
section
variable {H : Type} {enc : TypeId × Value → H} {W : World} {base : Nat} {v : Value} {d : DataW H} {p : List MemPlace}
end
set_option maxRecDepth 100000
section
variable {H : Type} {enc : TypeId × Value → H} {W : World} {base fuel : Nat} {cs : List Value} {x : DataW H × List MemPlace}
theorem cs_head (h : DataW.trod enc Tryz.prog W 0 (fun _ => true) true fuel 48 cs = some x) : ∃ y : Hd, cs = y.cells := by
  obtain ⟨xs, m, _, _, hlen, hxl, each⟩ := DataW.trod_struct Tryz.underlying48 h
  have hx : xs.length = 6 := hxl
  have hl : cs.length = 68 := hlen.trans (by kernel_rfl)
  have h0 : DataW.trod enc Tryz.prog W 0 (fun _ => true) true m 31 ((cs.drop 0).take 1) = some xs[0] := (each 0 _ rfl).trans (List.getElem?_eq_getElem (by omega))
  have h1 : DataW.trod enc Tryz.prog W 0 (fun _ => true) true m 46 ((cs.drop 1).take 32) = some xs[1] := (each 1 _ rfl).trans (List.getElem?_eq_getElem (by omega))
  have h2 : DataW.trod enc Tryz.prog W 0 (fun _ => true) true m 46 ((cs.drop 33).take 32) = some xs[2] := (each 2 _ rfl).trans (List.getElem?_eq_getElem (by omega))
  have h3 : DataW.trod enc Tryz.prog W 0 (fun _ => true) true m 31 ((cs.drop 65).take 1) = some xs[3] := (each 3 _ rfl).trans (List.getElem?_eq_getElem (by omega))
  have h4 : DataW.trod enc Tryz.prog W 0 (fun _ => true) true m 31 ((cs.drop 66).take 1) = some xs[4] := (each 4 _ rfl).trans (List.getElem?_eq_getElem (by omega))
  have h5 : DataW.trod enc Tryz.prog W 0 (fun _ => true) true m 31 ((cs.drop 67).take 1) = some xs[5] := (each 5 _ rfl).trans (List.getElem?_eq_getElem (by omega))
  obtain ⟨n0, e0⟩ := cs_u32 Tryz.underlying31 h0
  obtain ⟨n1, e1⟩ := cs_hash h1
  obtain ⟨n2, e2⟩ := cs_hash h2
  obtain ⟨n3, e3⟩ := cs_u32 Tryz.underlying31 h3
  obtain ⟨n4, e4⟩ := cs_u32 Tryz.underlying31 h4
  obtain ⟨n5, e5⟩ := cs_u32 Tryz.underlying31 h5
  refine ⟨⟨n0, n1.1, n2.1, n3, n4, n5, n1.2, n2.2⟩, ?_⟩
  have := cut_at 1 e0 rfl
  rw [List.drop_zero, cut_at 33 e1 rfl, cut_at 65 e2 rfl, cut_at 66 e3 rfl, cut_at 67 e4 rfl, cut_at 68 e5 rfl, List.drop_of_length_le (by omega), List.append_nil] at this
  rw [this]
  simp [Hd.cells]
end
section
variable {H : Type} {enc : TypeId × Value → H} {W : World} {base : Nat} {v : Value} {d : DataW H} {p : List MemPlace}
theorem open_head (hv : Value.okWide Tryz.prog W .any base 48 v) (h : DataW.Trod enc Tryz.prog W 0 (fun _ => true) true 48 v d p) : ∃ y : Hd, v = .agg y.cells.toArray := by
  simp only [Value.okWide, Tryz.underlying48] at hv
  obtain ⟨cs, rfl, hsz, _⟩ := hv
  obtain ⟨fuel, hf⟩ := h
  have hc1 : (Value.agg cs).cells.toList = cs.toList := by simp [Value.cells]
  rw [hc1] at hf
  obtain ⟨y, e⟩ := cs_head hf
  exact ⟨y, congrArg Value.agg (Array.toList_inj.1 (by rw [e]))⟩
end
end Go.Proofs.YtcoojkpimbddlaaGreatDoor
