/- What the listed table gives the walks: K0 .. K63 in their cells; a world that has them. -/
import Derived.Test.YtppooipamibhoaaGreatDoorX02
import Derived.ProofKit
import Derived.LaidMore
import Derived.OpenShut
import Derived.Stop.Joined
import Derived.ShutString
import Derived.ChangeOld
import Derived.SizedLaws
import Derived.Lib.SmallJoins
namespace Go.Proofs.YtppooipamibhoaaGreatDoor
open Go.ChangeShapes Go.WideShapes Go.ChangeAt Go.RowKit Go.Joins
set_option maxRecDepth 10000
theorem own : ownKnob Tryz.prog.godebug = none := by kernel_rfl
theorem laidOut : laidOutB Tryz.prog = true := by kernel_rfl
theorem gRounds : Tryz.prog.globalNamed "bedrock/sha.rounds" = some 0 := by kernel_rfl
theorem tRounds : (Tryz.prog.globals[0]?).map (·.type) = some 423 := by kernel_rfl
theorem cells5 : Tryz.prog.cellsOf 5 = 1 := by kernel_rfl
theorem cells29 : Tryz.prog.cellsOf 31 = 1 := by kernel_rfl
theorem cells66 : Tryz.prog.cellsOf 423 = 64 := by kernel_rfl
abbrev laid1 : List (String × DataW Unit) := [("bedrock/sha.rounds", Rows.laid_bedrock_sha_rounds)]
theorem rounds_eq : (Rows.laid_bedrock_sha_rounds : DataW Unit) = .agg (kL.map fun x => .lit (.int .u32 (x.toNat : Int))) := by kernel_rfl
set_option maxRecDepth 100000 in
theorem door_met (os : Os) (args : Array Value) : laidMetH Tryz.prog laid1 ((World.doorLaid Tryz.prog 400 os).forCall (fun _ _ => 0) ⟨#[], args, []⟩).memory :=
  laidMetH_of_parts3 (fuel := 8) (laidMet_of_run' 8 (by kernel_rfl) (by kernel_rfl)) (by kernel_rfl) (by kernel_rfl)
theorem of_laid {W : World} (h : laidMetH Tryz.prog laid1 W) : Kg W := by
  rw [MakeChecks.laidMetH_plain _ _ _ (by kernel_rfl)] at h
  obtain ⟨ps, ⟨g0, t0, cs0, f0, p0, q0, hg0, ht0, hv0, hd0, _, _⟩, _, _⟩ := h
  obtain rfl := Option.some.inj (gRounds.symm.trans hg0)
  obtain rfl := Option.some.inj (tRounds.symm.trans ht0)
  rw [rounds_eq] at hd0
  obtain ⟨xs, m1, rfl, hx1, hlen, hn, hel⟩ := DataW.trod_array Tryz.underlying423 hd0
  rw [cells66] at hlen
  rw [cells29] at hel
  simp only [Prod.mk.injEq, DataW.agg.injEq] at hx1
  intro j hj
  have hxj : xs[j]? = some (xs[j]'(by omega)) := List.getElem?_eq_getElem (by omega)
  have e := hel j hj
  rw [hxj, Nat.mul_one, List.drop_eq_getElem_cons (by omega)] at e
  simp only [List.take_succ_cons, List.take_zero] at e
  obtain ⟨a, ea, e2, _⟩ := DataW.trod_int Tryz.underlying31 e
  simp only [List.cons.injEq, and_true] at ea
  have h1 := congrArg (fun l : List (DataW Unit) => l[j]?) hx1.1
  simp only [List.getElem?_map, hxj, Option.map_some] at h1
  have hk : kL[j]? = some (kk j) := by
    rw [kk, List.getD_eq_getElem?_getD, List.getElem?_eq_getElem (by rw [kL_len]; exact hj)]
    rfl
  rw [hk, e2] at h1
  simp only [Option.map_some, Option.some.injEq, DataW.lit.injEq, Lit.int.injEq, true_and] at h1
  have hc := World.var?_cell hg0 hv0 j
  rw [hc, ← Array.getElem?_toList, List.getElem?_eq_getElem (by omega), ea, h1]
def byteOf : Value → UInt8
  | .int _ n => UInt8.ofNat n.toNat
  | _ => 0
def wordOf : Value → UInt32
  | .int _ n => UInt32.ofNat n.toNat
  | _ => 0
/-- An array of bytes that comes in. -/
theorem open_bytes {H : Type} {enc : TypeId × Value → H} {W : World} {base n : Nat} {t : TypeId} {v : Value} {d : DataW H} {p : List MemPlace} (hu : Tryz.prog.underlying t = some (.array n 5)) (hcs : Tryz.prog.cellsOf t = n)
    (hv : Value.okWide Tryz.prog W .any base t v) (h : DataW.Trod enc Tryz.prog W 0 (fun _ => true) true t v d p) : ∃ l : List UInt8, l.length = n ∧ v = .agg (hc l) := by
  simp only [Value.okWide, hu] at hv
  obtain ⟨cs, rfl, _, _⟩ := hv
  obtain ⟨fuel, hf⟩ := h
  obtain ⟨xs, m, rfl, hx, hlen, hxl, each⟩ := DataW.trod_array hu hf
  rw [hcs] at hlen
  have hsz : cs.size = n := by simpa [Value.cells] using hlen
  refine ⟨cs.toList.map byteOf, by simpa using hsz, ?_⟩
  have : cs = hc (cs.toList.map byteOf) := by
    apply Array.ext
    · rw [hc_size]; simp
    · intro i h1 h2
      have e := each i (by omega)
      rw [cells5, Nat.mul_one] at e
      have hxi : xs[i]? = some (xs[i]'(by omega)) := List.getElem?_eq_getElem (by omega)
      rw [hxi] at e
      obtain ⟨a, ea, _, wa⟩ := DataW.trod_int Tryz.underlying5 e
      have hab : 0 ≤ a ∧ a ≤ 255 := by simpa [Lit.wf, IntKind.min, IntKind.max, IntKind.signed, IntKind.bits] using wa
      have hc1 : (Value.agg cs).cells.toList.drop i = cs.toList.drop i := by simp [Value.cells]
      rw [hc1, List.drop_eq_getElem_cons (by simpa using h1)] at ea
      simp only [List.take_succ_cons, List.take_zero, List.cons.injEq, and_true] at ea
      have ei : cs[i] = Value.int .u8 a := by simpa using ea
      have e2 : (cs.toList.map byteOf)[i]? = some (UInt8.ofNat a.toNat) := by
        rw [List.getElem?_map, List.getElem?_eq_getElem (by simpa using h1)]
        simp [ei, byteOf]
      have e3 : (hc (cs.toList.map byteOf))[i]? = some (.int .u8 ((UInt8.ofNat a.toNat).toNat : Int)) := by
        rw [hc, List.getElem?_toArray, cellsL, List.getElem?_map, e2]; rfl
      rw [Array.getElem?_eq_getElem h2] at e3
      rw [ei, Option.some.inj e3, UInt8.toNat_ofNat']
      exact congrArg (Value.int .u8) (by omega)
  rw [← this]
/-- A state that comes in. -/
theorem open_state {H : Type} {enc : TypeId × Value → H} {W : World} {base : Nat} {t : TypeId} {v : Value} {d : DataW H} {p : List MemPlace} (hu : Tryz.prog.underlying t = some (.array 8 31)) (hcs : Tryz.prog.cellsOf t = 8)
    (hv : Value.okWide Tryz.prog W .any base t v) (h : DataW.Trod enc Tryz.prog W 0 (fun _ => true) true t v d p) : ∃ s : St, v = .agg (uc s.list) := by
  simp only [Value.okWide, hu] at hv
  obtain ⟨cs, rfl, _, _⟩ := hv
  obtain ⟨fuel, hf⟩ := h
  obtain ⟨xs, m, rfl, hx, hlen, hxl, each⟩ := DataW.trod_array hu hf
  rw [hcs] at hlen
  have hsz : cs.size = 8 := by simpa [Value.cells] using hlen
  have hl8 : (cs.toList.map wordOf).length = 8 := by simpa using hsz
  have : cs = uc (cs.toList.map wordOf) := by
    apply Array.ext
    · rw [uc_size]; simp
    · intro i h1 h2
      have e := each i (by omega)
      rw [cells29, Nat.mul_one] at e
      have hxi : xs[i]? = some (xs[i]'(by omega)) := List.getElem?_eq_getElem (by omega)
      rw [hxi] at e
      obtain ⟨a, ea, _, wa⟩ := DataW.trod_int Tryz.underlying31 e
      have hab : 0 ≤ a ∧ a ≤ 4294967295 := by simpa [Lit.wf, IntKind.min, IntKind.max, IntKind.signed, IntKind.bits] using wa
      have hc1 : (Value.agg cs).cells.toList.drop i = cs.toList.drop i := by simp [Value.cells]
      rw [hc1, List.drop_eq_getElem_cons (by simpa using h1)] at ea
      simp only [List.take_succ_cons, List.take_zero, List.cons.injEq, and_true] at ea
      have ei : cs[i] = Value.int .u32 a := by simpa using ea
      have e2 : (cs.toList.map wordOf)[i]? = some (UInt32.ofNat a.toNat) := by
        rw [List.getElem?_map, List.getElem?_eq_getElem (by simpa using h1)]
        simp [ei, wordOf]
      have e3 : (uc (cs.toList.map wordOf))[i]? = some (.int .u32 ((UInt32.ofNat a.toNat).toNat : Int)) := by
        rw [uc, List.getElem?_toArray, List.getElem?_map, e2]; rfl
      rw [Array.getElem?_eq_getElem h2] at e3
      rw [ei, Option.some.inj e3, UInt32.toNat_ofNat']
      exact congrArg (Value.int .u32) (by omega)
  rw [this]
  generalize cs.toList.map wordOf = L at hl8
  match L, hl8 with
  | [a, b, c, d, e, f, g, h], _ => exact ⟨⟨a, b, c, d, e, f, g, h⟩, rfl⟩
end Go.Proofs.YtppooipamibhoaaGreatDoor
