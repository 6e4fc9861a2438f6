/- What the listed table gives the walks: K0 .. K63 in their cells; a world that has them. Transactions that come in. Transactions that come in, whose keys are texts. A header that comes in. -/
import Derived.Test.YtofddbjnncgmlabGreatDoorX02
import Derived.ProofKit
import Derived.LaidMore
import Derived.OpenShut
import Derived.Stop.Joined
import Derived.ShutString
import Derived.ChangeOld
import Derived.SizedLaws
import Derived.Lib.SmallJoins
import Derived.Test.YtofddbjnncgmlabGreatDoorX10
import Derived.Below
import Derived.Test.YtofddbjnncgmlabGreatDoorX26
import Derived.Test.YtofddbjnncgmlabGreatDoorX33
namespace Go.Proofs.YtofddbjnncgmlabGreatDoor
open Go.ChangeShapes Go.WideShapes Go.ChangeAt Go.RowKit Go.Joins
set_option maxRecDepth 10000
theorem own : ownKnob Tryz.prog.godebug = none := by kernel_rfl
theorem laidOut : laidOutB Tryz.prog = true := by kernel_rfl
theorem gRounds : Tryz.prog.globalNamed "bedrock/sha.rounds" = some 1 := by kernel_rfl
theorem tRounds : (Tryz.prog.globals[1]?).map (·.type) = some 228 := by kernel_rfl
theorem cells5 : Tryz.prog.cellsOf 5 = 1 := by kernel_rfl
theorem cells29 : Tryz.prog.cellsOf 23 = 1 := by kernel_rfl
theorem cells66 : Tryz.prog.cellsOf 228 = 64 := by kernel_rfl
abbrev laid1 : List (String × DataW Unit) := [("bedrock/sha.rounds", Rows.laid_bedrock_sha_rounds)]
theorem rounds_eq : (Rows.laid_bedrock_sha_rounds : DataW Unit) = .agg (kL.map fun x => .lit (.int .u32 (x.toNat : Int))) := by kernel_rfl
set_option maxRecDepth 100000 in
theorem door_met (os : Os) (args : Array Value) : laidMetH Tryz.prog laid1 ((World.doorLaid Tryz.prog 400 os).forCall (fun _ _ => 0) ⟨#[], args, []⟩).memory :=
  laidMetH_of_parts3 (fuel := 8) (laidMet_of_run' 8 (by kernel_rfl) (by kernel_rfl)) (by kernel_rfl) (by kernel_rfl)
theorem of_laid {W : World} (h : laidMetH Tryz.prog laid1 W) : Kg W := by
  rw [MakeChecks.laidMetH_plain _ _ _ (by kernel_rfl)] at h
  obtain ⟨ps, ⟨g0, t0, cs0, f0, p0, q0, hg0, ht0, hv0, hd0, _, _⟩, _, _⟩ := h
  obtain rfl := Option.some.inj (gRounds.symm.trans hg0)
  obtain rfl := Option.some.inj (tRounds.symm.trans ht0)
  rw [rounds_eq] at hd0
  obtain ⟨xs, m1, rfl, hx1, hlen, hn, hel⟩ := DataW.trod_array Tryz.underlying228 hd0
  rw [cells66] at hlen
  rw [cells29] at hel
  simp only [Prod.mk.injEq, DataW.agg.injEq] at hx1
  intro j hj
  have hxj : xs[j]? = some (xs[j]'(by omega)) := List.getElem?_eq_getElem (by omega)
  have e := hel j hj
  rw [hxj, Nat.mul_one, List.drop_eq_getElem_cons (by omega)] at e
  simp only [List.take_succ_cons, List.take_zero] at e
  obtain ⟨a, ea, e2, _⟩ := DataW.trod_int Tryz.underlying23 e
  simp only [List.cons.injEq, and_true] at ea
  have h1 := congrArg (fun l : List (DataW Unit) => l[j]?) hx1.1
  simp only [List.getElem?_map, hxj, Option.map_some] at h1
  have hk : kL[j]? = some (kk j) := by
    rw [kk, List.getD_eq_getElem?_getD, List.getElem?_eq_getElem (by rw [kL_len]; exact hj)]
    rfl
  rw [hk, e2] at h1
  simp only [Option.map_some, Option.some.injEq, DataW.lit.injEq, Lit.int.injEq, true_and] at h1
  have hc := World.var?_cell hg0 hv0 j
  rw [hc, ← Array.getElem?_toList, List.getElem?_eq_getElem (by omega), ea, h1]
def byteOf : Value → UInt8
  | .int _ n => UInt8.ofNat n.toNat
  | _ => 0
def wordOf : Value → UInt32
  | .int _ n => UInt32.ofNat n.toNat
  | _ => 0
/-- An array of bytes that comes in. -/
theorem open_bytes {H : Type} {enc : TypeId × Value → H} {W : World} {base n : Nat} {t : TypeId} {v : Value} {d : DataW H} {p : List MemPlace} (hu : Tryz.prog.underlying t = some (.array n 5)) (hcs : Tryz.prog.cellsOf t = n)
    (hv : Value.okWide Tryz.prog W .any base t v) (h : DataW.Trod enc Tryz.prog W 0 (fun _ => true) true t v d p) : ∃ l : List UInt8, l.length = n ∧ v = .agg (hc l) := by
  simp only [Value.okWide, hu] at hv
  obtain ⟨cs, rfl, _, _⟩ := hv
  obtain ⟨fuel, hf⟩ := h
  obtain ⟨xs, m, rfl, hx, hlen, hxl, each⟩ := DataW.trod_array hu hf
  rw [hcs] at hlen
  have hsz : cs.size = n := by simpa [Value.cells] using hlen
  refine ⟨cs.toList.map byteOf, by simpa using hsz, ?_⟩
  have : cs = hc (cs.toList.map byteOf) := by
    apply Array.ext
    · rw [hc_size]; simp
    · intro i h1 h2
      have e := each i (by omega)
      rw [cells5, Nat.mul_one] at e
      have hxi : xs[i]? = some (xs[i]'(by omega)) := List.getElem?_eq_getElem (by omega)
      rw [hxi] at e
      obtain ⟨a, ea, _, wa⟩ := DataW.trod_int Tryz.underlying5 e
      have hab : 0 ≤ a ∧ a ≤ 255 := by simpa [Lit.wf, IntKind.min, IntKind.max, IntKind.signed, IntKind.bits] using wa
      have hc1 : (Value.agg cs).cells.toList.drop i = cs.toList.drop i := by simp [Value.cells]
      rw [hc1, List.drop_eq_getElem_cons (by simpa using h1)] at ea
      simp only [List.take_succ_cons, List.take_zero, List.cons.injEq, and_true] at ea
      have ei : cs[i] = Value.int .u8 a := by simpa using ea
      have e2 : (cs.toList.map byteOf)[i]? = some (UInt8.ofNat a.toNat) := by
        rw [List.getElem?_map, List.getElem?_eq_getElem (by simpa using h1)]
        simp [ei, byteOf]
      have e3 : (hc (cs.toList.map byteOf))[i]? = some (.int .u8 ((UInt8.ofNat a.toNat).toNat : Int)) := by
        rw [hc, List.getElem?_toArray, cellsL, List.getElem?_map, e2]; rfl
      rw [Array.getElem?_eq_getElem h2] at e3
      rw [ei, Option.some.inj e3, UInt8.toNat_ofNat']
      exact congrArg (Value.int .u8) (by omega)
  rw [← this]
/-- A state that comes in. -/
theorem open_state {H : Type} {enc : TypeId × Value → H} {W : World} {base : Nat} {t : TypeId} {v : Value} {d : DataW H} {p : List MemPlace} (hu : Tryz.prog.underlying t = some (.array 8 23)) (hcs : Tryz.prog.cellsOf t = 8)
    (hv : Value.okWide Tryz.prog W .any base t v) (h : DataW.Trod enc Tryz.prog W 0 (fun _ => true) true t v d p) : ∃ s : St, v = .agg (uc s.list) := by
  simp only [Value.okWide, hu] at hv
  obtain ⟨cs, rfl, _, _⟩ := hv
  obtain ⟨fuel, hf⟩ := h
  obtain ⟨xs, m, rfl, hx, hlen, hxl, each⟩ := DataW.trod_array hu hf
  rw [hcs] at hlen
  have hsz : cs.size = 8 := by simpa [Value.cells] using hlen
  have hl8 : (cs.toList.map wordOf).length = 8 := by simpa using hsz
  have : cs = uc (cs.toList.map wordOf) := by
    apply Array.ext
    · rw [uc_size]; simp
    · intro i h1 h2
      have e := each i (by omega)
      rw [cells29, Nat.mul_one] at e
      have hxi : xs[i]? = some (xs[i]'(by omega)) := List.getElem?_eq_getElem (by omega)
      rw [hxi] at e
      obtain ⟨a, ea, _, wa⟩ := DataW.trod_int Tryz.underlying23 e
      have hab : 0 ≤ a ∧ a ≤ 4294967295 := by simpa [Lit.wf, IntKind.min, IntKind.max, IntKind.signed, IntKind.bits] using wa
      have hc1 : (Value.agg cs).cells.toList.drop i = cs.toList.drop i := by simp [Value.cells]
      rw [hc1, List.drop_eq_getElem_cons (by simpa using h1)] at ea
      simp only [List.take_succ_cons, List.take_zero, List.cons.injEq, and_true] at ea
      have ei : cs[i] = Value.int .u32 a := by simpa using ea
      have e2 : (cs.toList.map wordOf)[i]? = some (UInt32.ofNat a.toNat) := by
        rw [List.getElem?_map, List.getElem?_eq_getElem (by simpa using h1)]
        simp [ei, wordOf]
      have e3 : (uc (cs.toList.map wordOf))[i]? = some (.int .u32 ((UInt32.ofNat a.toNat).toNat : Int)) := by
        rw [uc, List.getElem?_toArray, List.getElem?_map, e2]; rfl
      rw [Array.getElem?_eq_getElem h2] at e3
      rw [ei, Option.some.inj e3, UInt32.toNat_ofNat']
      exact congrArg (Value.int .u32) (by omega)
  rw [this]
  generalize cs.toList.map wordOf = L at hl8
  match L, hl8 with
  | [a, b, c, d, e, f, g, h], _ => exact ⟨⟨a, b, c, d, e, f, g, h⟩, rfl⟩
end Go.Proofs.YtofddbjnncgmlabGreatDoor
namespace Go.Proofs.YtofddbjnncgmlabGreatDoor
open Go.ChangeShapes Go.WideShapes Go.ChangeAt Go.RowKit Go.Joins Go.Deep
set_option linter.unusedVariables false
set_option maxRecDepth 100000
theorem cut_at {cs p : List Value} {a n : Nat} (b : Nat) (h : (cs.drop a).take n = p) (e : a + n = b) : cs.drop a = p ++ cs.drop b := by
  rw [← h, ← e, ← List.drop_drop, List.take_append_drop]
theorem addr_add9 (g o j : Nat) : (⟨g, o, none⟩ : Addr).add j = ⟨g, o + j, none⟩ := by unfold Addr.add; split <;> simp_all
def byteOf9 : Value → UInt8
  | .int _ n => UInt8.ofNat n.toNat
  | _ => 0
section
variable {H : Type} {enc : TypeId × Value → H} {W : World} {base fuel : Nat} {cs : List Value} {x : DataW H × List MemPlace}
theorem cs_u32 {t : TypeId} (hu : Tryz.prog.underlying t = some (.int .u32)) (h : DataW.trod enc Tryz.prog W 0 (fun _ => true) true fuel t cs = some x) : ∃ n : UInt32, cs = [.int .u32 (n.toNat : Int)] := by
  obtain ⟨a, ea, _, wa⟩ := DataW.trod_int hu h
  have hab : 0 ≤ a ∧ a ≤ 4294967295 := by simpa [Lit.wf, IntKind.min, IntKind.max, IntKind.signed, IntKind.bits] using wa
  refine ⟨UInt32.ofNat a.toNat, ?_⟩
  rw [ea, UInt32.toNat_ofNat', Nat.mod_eq_of_lt (by omega), Int.toNat_of_nonneg hab.1]
theorem cs_u64 {t : TypeId} (hu : Tryz.prog.underlying t = some (.int .u64)) (h : DataW.trod enc Tryz.prog W 0 (fun _ => true) true fuel t cs = some x) : ∃ n : UInt64, cs = [.int .u64 (n.toNat : Int)] := by
  obtain ⟨a, ea, _, wa⟩ := DataW.trod_int hu h
  have hab : 0 ≤ a ∧ a ≤ 18446744073709551615 := by simpa [Lit.wf, IntKind.min, IntKind.max, IntKind.signed, IntKind.bits] using wa
  refine ⟨UInt64.ofNat a.toNat, ?_⟩
  rw [ea, UInt64.toNat_ofNat', Nat.mod_eq_of_lt (by omega), Int.toNat_of_nonneg hab.1]
theorem cs_u16 {t : TypeId} (hu : Tryz.prog.underlying t = some (.int .u16)) (h : DataW.trod enc Tryz.prog W 0 (fun _ => true) true fuel t cs = some x) : ∃ n : UInt16, cs = [.int .u16 (n.toNat : Int)] := by
  obtain ⟨a, ea, _, wa⟩ := DataW.trod_int hu h
  have hab : 0 ≤ a ∧ a ≤ 65535 := by simpa [Lit.wf, IntKind.min, IntKind.max, IntKind.signed, IntKind.bits] using wa
  refine ⟨UInt16.ofNat a.toNat, ?_⟩
  rw [ea, UInt16.toNat_ofNat', Nat.mod_eq_of_lt (by omega), Int.toNat_of_nonneg hab.1]
theorem cs_i64 {t : TypeId} (hu : Tryz.prog.underlying t = some (.int .i64)) (h : DataW.trod enc Tryz.prog W 0 (fun _ => true) true fuel t cs = some x) : ∃ n : Int, cs = [.int .i64 n] ∧ -9223372036854775808 ≤ n ∧ n ≤ 9223372036854775807 := by
  obtain ⟨a, ea, _, wa⟩ := DataW.trod_int hu h
  have hab : -9223372036854775808 ≤ a ∧ a ≤ 9223372036854775807 := by simpa [Lit.wf, IntKind.min, IntKind.max, IntKind.signed, IntKind.bits] using wa
  exact ⟨a, ea, hab⟩
theorem cs_str {t : TypeId} (hu : Tryz.prog.underlying t = some .string) (h : DataW.trod enc Tryz.prog W 0 (fun _ => true) true fuel t cs = some x) : ∃ n : ByteArray, cs = [.string n] ∧ n.size ≤ maxLen := by
  obtain ⟨a, ea, _, wa⟩ := DataW.trod_string hu h
  exact ⟨a, ea, wa⟩
theorem cs_bool {t : TypeId} (hu : Tryz.prog.underlying t = some .bool) (h : DataW.trod enc Tryz.prog W 0 (fun _ => true) true fuel t cs = some x) : ∃ n : Bool, cs = [.bool n] := by
  obtain ⟨a, ea, _⟩ := DataW.trod_bool hu h
  exact ⟨a, ea⟩
theorem cs_bytes {t : TypeId} {n : Nat} (hu : Tryz.prog.underlying t = some (.array n 5)) (hc : Tryz.prog.cellsOf t = n) (h : DataW.trod enc Tryz.prog W 0 (fun _ => true) true fuel t cs = some x) : ∃ l : List UInt8, cs = cellsL l ∧ l.length = n := by
  obtain ⟨xs, m, _, _, hlen, hxl, each⟩ := DataW.trod_array hu h
  rw [hc] at hlen
  refine ⟨cs.map byteOf9, ?_, by simpa using hlen⟩
  apply List.ext_getElem
  · simp [cellsL]
  · intro i h1 h2
    have e := each i (by omega)
    rw [show Tryz.prog.cellsOf 5 = 1 by kernel_rfl, Nat.mul_one, List.drop_eq_getElem_cons h1, List.getElem?_eq_getElem (by omega)] at e
    simp only [List.take_succ_cons, List.take_zero] at e
    obtain ⟨a, ea, _, wa⟩ := DataW.trod_int Tryz.underlying5 e
    have hab : 0 ≤ a ∧ a ≤ 255 := by simpa [Lit.wf, IntKind.min, IntKind.max, IntKind.signed, IntKind.bits] using wa
    have ei : cs[i] = Value.int .u8 a := by simpa using ea
    simp only [cellsL, List.getElem_map]
    rw [ei]
    simp only [byteOf9]
    rw [UInt8.toNat_ofNat']
    exact congrArg (Value.int .u8) (by omega)
theorem cs_hash (h : DataW.trod enc Tryz.prog W 0 (fun _ => true) true fuel 25 cs = some x) : ∃ y : Id32, cs = cellsL y.1 := by
  obtain ⟨l, e, hl⟩ := cs_bytes Tryz.underlying25 (by kernel_rfl) h
  exact ⟨⟨l, hl⟩, e⟩
theorem cs_point (h : DataW.trod enc Tryz.prog W 0 (fun _ => true) true fuel 76 cs = some x) : ∃ (y : Id32) (n : UInt32), cs = cellsL y.1 ++ [.int .u32 (n.toNat : Int)] := by
  obtain ⟨xs, m, _, _, hlen, hxl, each⟩ := DataW.trod_struct Tryz.underlying76 h
  have hx : xs.length = 2 := hxl
  have hl : cs.length = 33 := hlen.trans (by kernel_rfl)
  have h0 : DataW.trod enc Tryz.prog W 0 (fun _ => true) true m 25 ((cs.drop 0).take 32) = some xs[0] := (each 0 _ rfl).trans (List.getElem?_eq_getElem (by omega))
  have h1 : DataW.trod enc Tryz.prog W 0 (fun _ => true) true m 23 ((cs.drop 32).take 1) = some xs[1] := (each 1 _ rfl).trans (List.getElem?_eq_getElem (by omega))
  obtain ⟨n0, e0⟩ := cs_hash h0
  obtain ⟨n1, e1⟩ := cs_u32 Tryz.underlying23 h1
  refine ⟨n0, n1, ?_⟩
  have := cut_at 32 e0 rfl
  rw [List.drop_zero, cut_at 33 e1 rfl, List.drop_of_length_le (by omega), List.append_nil] at this
  exact this
theorem cs_in (h : DataW.trod enc Tryz.prog W 0 (fun _ => true) true fuel 96 cs = some x) : ∃ y : Ti, cs = y.cells := by
  obtain ⟨xs, m, _, _, hlen, hxl, each⟩ := DataW.trod_struct Tryz.underlying96 h
  have hx : xs.length = 3 := hxl
  have hl : cs.length = 35 := hlen.trans (by kernel_rfl)
  have h0 : DataW.trod enc Tryz.prog W 0 (fun _ => true) true m 76 ((cs.drop 0).take 33) = some xs[0] := (each 0 _ rfl).trans (List.getElem?_eq_getElem (by omega))
  have h1 : DataW.trod enc Tryz.prog W 0 (fun _ => true) true m 9 ((cs.drop 33).take 1) = some xs[1] := (each 1 _ rfl).trans (List.getElem?_eq_getElem (by omega))
  have h2 : DataW.trod enc Tryz.prog W 0 (fun _ => true) true m 23 ((cs.drop 34).take 1) = some xs[2] := (each 2 _ rfl).trans (List.getElem?_eq_getElem (by omega))
  obtain ⟨n0, m0, e0⟩ := cs_point h0
  obtain ⟨n1, e1, _⟩ := cs_str Tryz.underlying9 h1
  obtain ⟨n2, e2⟩ := cs_u32 Tryz.underlying23 h2
  refine ⟨⟨n0.1, m0, n1, n2, n0.2⟩, ?_⟩
  have := cut_at 33 e0 rfl
  rw [List.drop_zero, cut_at 34 e1 rfl, cut_at 35 e2 rfl, List.drop_of_length_le (by omega), List.append_nil] at this
  rw [this]
  simp [Ti.cells]
theorem cs_out (h : DataW.trod enc Tryz.prog W 0 (fun _ => true) true fuel 70 cs = some x) : ∃ y : Tu, cs = y.cells := by
  obtain ⟨xs, m, _, _, hlen, hxl, each⟩ := DataW.trod_struct Tryz.underlying70 h
  have hx : xs.length = 2 := hxl
  have hl : cs.length = 2 := hlen.trans (by kernel_rfl)
  have h0 : DataW.trod enc Tryz.prog W 0 (fun _ => true) true m 66 ((cs.drop 0).take 1) = some xs[0] := (each 0 _ rfl).trans (List.getElem?_eq_getElem (by omega))
  have h1 : DataW.trod enc Tryz.prog W 0 (fun _ => true) true m 9 ((cs.drop 1).take 1) = some xs[1] := (each 1 _ rfl).trans (List.getElem?_eq_getElem (by omega))
  obtain ⟨n0, e0⟩ := cs_u64 Tryz.underlying66 h0
  obtain ⟨n1, e1, _⟩ := cs_str Tryz.underlying9 h1
  refine ⟨⟨n0, n1⟩, ?_⟩
  have := cut_at 1 e0 rfl
  rw [List.drop_zero, cut_at 2 e1 rfl, List.drop_of_length_le (by omega)] at this
  rw [this]
  rfl
/-- How long a slice is that comes in. -/
theorem slice_long9 {t e : TypeId} {ao : Option Addr} {len cap : Nat} (hu : Tryz.prog.underlying t = some (.slice e)) (h : DataW.trod enc Tryz.prog W 0 (fun _ => true) true fuel t [.slice ao len cap] = some x) (b : Nat) (hb : ∀ n ∈ x.1.weights Tryz.prog t, n ≤ b) : len * Tryz.prog.bytesOf e ≤ b := by
  rcases DataW.trod_slice hu h with ⟨hcs, rfl⟩ | ⟨a, l, c, elems, rest, n, _, hcs, rfl, _, _, _, hel, _⟩
  · simp at hcs
    obtain ⟨rfl, rfl, rfl⟩ := hcs
    simp
  · simp at hcs
    obtain ⟨rfl, rfl, rfl⟩ := hcs
    have := hb ((elems.length + rest.length) * Tryz.prog.bytesOf e) (by simp [DataW.weights, hu])
    refine Nat.le_trans (Nat.mul_le_mul_right _ ?_) this
    omega
/-- A slice that comes in is a list. -/
theorem list_fun {α : Type} (E : Ek α) [Inhabited α] (P : α → Prop) (hel : ∀ (f : Nat) (cs : List Value) (y : DataW H × List MemPlace), DataW.trod enc Tryz.prog W 0 (fun _ => true) true f E.e cs = some y → ∃ a : α, cs = E.enc a ∧ P a) (h : DataW.trod enc Tryz.prog W 0 (fun _ => true) true fuel E.t cs = some x) (hb : ∀ n ∈ x.1.weights Tryz.prog E.t, n ≤ 140737488351232) : ∃ (v : Value) (L : List α), cs = [v] ∧ LX E W v L ∧ L.length * E.b ≤ 140737488355328 ∧ ∀ a ∈ L, P a := by
  have hk : Tryz.prog.cellsOf E.e = E.k := by
    obtain ⟨i, z, hi, _, _, hs, _⟩ := E.parts
    simp [Program.cellsOf, hi, hs]
  have hby : Tryz.prog.bytesOf E.e = E.b := by
    obtain ⟨i, z, hi, _, _, _, hs⟩ := E.parts
    simp [Program.bytesOf, hi, hs]
  have hkp := E.kpos
  rcases open_slice E.sl h with ⟨rfl, _⟩ | ⟨a, len, cap, m, n, D, Pl, rfl, _, hl, hm, hmm, hxe, hx⟩
  · exact ⟨_, [], rfl, LX.nil W, by simp, fun a ha => by cases ha⟩
  · have hlong := slice_long9 E.sl h _ hb
    rw [hby] at hlong
    have each : ∀ i, i < len → ∃ q : α, P q ∧ ∃ g off, some a = some (⟨g, off, none⟩ : Addr) ∧ g < W.heap.size ∧ W.rangeAt g (off + i * E.k) (E.enc q) := by
      intro i hi
      obtain ⟨cs', h1, h2⟩ := hx i (by rw [hmm]; split <;> omega)
      rw [hk] at h1
      obtain ⟨_, hlen, hcell⟩ := World.cells?_some h1
      obtain ⟨q, hcs, hq⟩ := hel _ _ _ h2
      obtain ⟨g, off, spot⟩ := a
      have hspot : spot = none := by
        obtain ⟨cz, hz1, hz2⟩ := hx 0 (by rw [hmm]; split <;> omega)
        rw [hk] at hz1
        obtain ⟨_, hzlen, hzcell⟩ := World.cells?_some hz1
        have cz0 := hzcell 0 (by omega)
        have h0 : cz[0]? = some (cz[0]'(by omega)) := List.getElem?_eq_getElem (by omega)
        rw [h0] at cz0
        simpa [Addr.add] using World.cell?_spot cz0
      subst hspot
      have hr : W.rangeAt g (off + i * E.k) cs' := fun j v hv => by
        have hj : j < E.k := by
          rcases Nat.lt_or_ge j E.k with h' | h'
          · exact h'
          · rw [List.getElem?_eq_none (by omega)] at hv; cases hv
        have := hcell j (by omega)
        rw [addr_add9, addr_add9, hv] at this
        exact this
      have hg : g < W.heap.size := by
        have h0 : cs'[0]? = some (cs'[0]'(by omega)) := List.getElem?_eq_getElem (by omega)
        exact block_lt_of_cell (a := ⟨g, off + i * E.k + 0, none⟩) (hr 0 _ h0)
      exact ⟨q, hq, g, off, rfl, hg, by rw [← hcs]; exact hr⟩
    obtain ⟨F, hF⟩ := choose_lt each
    refine ⟨_, (List.range len).map F, rfl, ⟨some a, cap, by simp, by simpa using hl, fun i hi => ?_⟩, by simp; omega, fun y hy => ?_⟩
    · have hi' : i < len := by simpa using hi
      simp only [List.getElem_map, List.getElem_range]
      exact (hF i hi').2
    · simp only [List.mem_map, List.mem_range] at hy
      obtain ⟨i, hi, rfl⟩ := hy
      exact (hF i hi).1
instance : Inhabited Ti := ⟨zTi⟩
instance : Inhabited Tu := ⟨zTu⟩
theorem cs_strW {t : TypeId} {N : Nat} (hu : Tryz.prog.underlying t = some .string) (h : DataW.trod enc Tryz.prog W 0 (fun _ => true) true fuel t cs = some x) (hb : ∀ n ∈ x.1.weights Tryz.prog t, n ≤ N) : ∃ n : ByteArray, cs = [.string n] ∧ n.size ≤ maxLen ∧ n.size ≤ N := by
  obtain ⟨a, ea, ex, wa⟩ := DataW.trod_string hu h
  refine ⟨a, ea, wa, ?_⟩
  have hl : a.data.toList.length = a.size := by simp
  have := hb a.data.toList.length (by rw [ex]; simp [DataW.weights])
  omega
theorem cs_tx (h : DataW.trod enc Tryz.prog W 0 (fun _ => true) true fuel 90 cs = some x) (hb : ∀ n ∈ x.1.weights Tryz.prog 90, n ≤ 140737488351232) : ∃ (m : Tm) (ai : Option Addr) (ci : Nat) (ao : Option Addr) (co : Nat), cs = (m.cells ai ci ao co).toList ∧ LT W m ai ci ao co ∧ m.fit := by
  obtain ⟨xs, f, _, ex, hlen, hxl, each⟩ := DataW.trod_struct Tryz.underlying90 h
  have hx : xs.length = 4 := hxl
  have hl : cs.length = 4 := hlen.trans (by kernel_rfl)
  have hw : ∀ (j : Nat) (t : TypeId) (y : DataW H × List MemPlace), xs[j]? = some y → ([23, 87, 88, 23] : List TypeId)[j]? = some t → ∀ n ∈ y.1.weights Tryz.prog t, n ≤ 140737488351232 := by
    intro j t y hy ht n hn
    have ed : x.1 = .agg (xs.map (·.1)) := congrArg Prod.fst ex
    refine hb n ?_
    rw [ed]
    simp only [DataW.weights, Tryz.underlying90]
    exact DataW.weights_mem_each (t := t) (d := y.1) (j := j) ht (by rw [List.getElem?_map, hy]; rfl) n hn
  have h0 : DataW.trod enc Tryz.prog W 0 (fun _ => true) true f 23 ((cs.drop 0).take 1) = some xs[0] := (each 0 _ rfl).trans (List.getElem?_eq_getElem (by omega))
  have h1 : DataW.trod enc Tryz.prog W 0 (fun _ => true) true f 87 ((cs.drop 1).take 1) = some xs[1] := (each 1 _ rfl).trans (List.getElem?_eq_getElem (by omega))
  have h2 : DataW.trod enc Tryz.prog W 0 (fun _ => true) true f 88 ((cs.drop 2).take 1) = some xs[2] := (each 2 _ rfl).trans (List.getElem?_eq_getElem (by omega))
  have h3 : DataW.trod enc Tryz.prog W 0 (fun _ => true) true f 23 ((cs.drop 3).take 1) = some xs[3] := (each 3 _ rfl).trans (List.getElem?_eq_getElem (by omega))
  obtain ⟨n0, e0⟩ := cs_u32 Tryz.underlying23 h0
  obtain ⟨v1, n1, e1, l1, z1, p1⟩ := list_fun KA (fun _ => True) (fun f cs y h => by obtain ⟨a, e⟩ := cs_in h; exact ⟨a, e, trivial⟩) h1 (hw 1 _ _ (List.getElem?_eq_getElem (by omega)) rfl)
  obtain ⟨v2, n2, e2, l2, z2, p2⟩ := list_fun KO (fun _ => True) (fun f cs y h => by obtain ⟨a, e⟩ := cs_out h; exact ⟨a, e, trivial⟩) h2 (hw 2 _ _ (List.getElem?_eq_getElem (by omega)) rfl)
  obtain ⟨n3, e3⟩ := cs_u32 Tryz.underlying23 h3
  obtain ⟨a1, c1, rfl⟩ := l1.form
  obtain ⟨a2, c2, rfl⟩ := l2.form
  refine ⟨⟨n0, n1, n2, n3⟩, a1, c1, a2, c2, ?_, ⟨l1, l2⟩, ⟨z1, z2⟩⟩
  have := cut_at 1 e0 rfl
  rw [List.drop_zero, cut_at 2 e1 rfl, cut_at 3 e2 rfl, cut_at 4 e3 rfl, List.drop_of_length_le (by omega)] at this
  rw [this]
  rfl
end
section
variable {H : Type} {enc : TypeId × Value → H} {W : World} {base : Nat} {v : Value} {d : DataW H} {p : List MemPlace}
theorem open_tx (hv : Value.okWide Tryz.prog W .any base 90 v) (h : DataW.Trod enc Tryz.prog W 0 (fun _ => true) true 90 v d p) (hb : ∀ n ∈ d.weights Tryz.prog 90, n ≤ 140737488351232) : ∃ (m : Tm) (ai : Option Addr) (ci : Nat) (ao : Option Addr) (co : Nat), v = .agg (m.cells ai ci ao co) ∧ LT W m ai ci ao co ∧ m.fit := by
  simp only [Value.okWide, Tryz.underlying90] at hv
  obtain ⟨cs, rfl, hsz, _⟩ := hv
  obtain ⟨fuel, hf⟩ := h
  have hc1 : (Value.agg cs).cells.toList = cs.toList := by simp [Value.cells]
  rw [hc1] at hf
  obtain ⟨m, ai, ci, ao, co, e, hm, hz⟩ := cs_tx hf hb
  exact ⟨m, ai, ci, ao, co, congrArg Value.agg (Array.toList_inj.1 e), hm, hz⟩
theorem open_id (hv : Value.okWide Tryz.prog W .any base 25 v) (h : DataW.Trod enc Tryz.prog W 0 (fun _ => true) true 25 v d p) : ∃ y : Id32, v = .agg (hc y.1) := by
  simp only [Value.okWide, Tryz.underlying25] at hv
  obtain ⟨cs, rfl, hsz, _⟩ := hv
  obtain ⟨fuel, hf⟩ := h
  have hc1 : (Value.agg cs).cells.toList = cs.toList := by simp [Value.cells]
  rw [hc1] at hf
  obtain ⟨y, e⟩ := cs_hash hf
  exact ⟨y, congrArg Value.agg (Array.toList_inj.1 (by rw [e]; simp [hc]))⟩
theorem weighs9 {ts : List TypeId} {ds : List (DataW H)} (h : (DataW.weightsEach Tryz.prog ts ds).all (· ≤ reachBytes) = true) {j : Nat} {t : TypeId} {d : DataW H} (ht : ts[j]? = some t) (hd : ds[j]? = some d) : ∀ n ∈ d.weights Tryz.prog t, n ≤ 140737488351232 := by
  intro n hn
  have := List.all_eq_true.1 h _ (DataW.weights_mem_each ht hd n hn)
  simp only [reachBytes] at this
  exact of_decide_eq_true this
end
theorem laidOut9 : laidOutB Tryz.prog = true := by kernel_rfl
end Go.Proofs.YtofddbjnncgmlabGreatDoor
namespace Go.Proofs.YtofddbjnncgmlabGreatDoor
open Go.ChangeShapes Go.WideShapes Go.ChangeAt Go.RowKit Go.Joins Go.Deep
set_option linter.unusedVariables false
set_option maxRecDepth 100000
section
variable {H : Type} {enc : TypeId × Value → H} {W : World} {base fuel : Nat} {cs : List Value} {x : DataW H × List MemPlace}
theorem cs_inK (h : DataW.trod enc Tryz.prog W 0 (fun _ => true) true fuel 96 cs = some x) : ∃ y : Ti, cs = y.cells ∧ y.key.size ≤ maxLen := by
  obtain ⟨xs, m, _, _, hlen, hxl, each⟩ := DataW.trod_struct Tryz.underlying96 h
  have hx : xs.length = 3 := hxl
  have hl : cs.length = 35 := hlen.trans (by kernel_rfl)
  have h0 : DataW.trod enc Tryz.prog W 0 (fun _ => true) true m 76 ((cs.drop 0).take 33) = some xs[0] := (each 0 _ rfl).trans (List.getElem?_eq_getElem (by omega))
  have h1 : DataW.trod enc Tryz.prog W 0 (fun _ => true) true m 9 ((cs.drop 33).take 1) = some xs[1] := (each 1 _ rfl).trans (List.getElem?_eq_getElem (by omega))
  have h2 : DataW.trod enc Tryz.prog W 0 (fun _ => true) true m 23 ((cs.drop 34).take 1) = some xs[2] := (each 2 _ rfl).trans (List.getElem?_eq_getElem (by omega))
  obtain ⟨n0, m0, e0⟩ := cs_point h0
  obtain ⟨n1, e1, k1⟩ := cs_str Tryz.underlying9 h1
  obtain ⟨n2, e2⟩ := cs_u32 Tryz.underlying23 h2
  refine ⟨⟨n0.1, m0, n1, n2, n0.2⟩, ?_, k1⟩
  have := cut_at 33 e0 rfl
  rw [List.drop_zero, cut_at 34 e1 rfl, cut_at 35 e2 rfl, List.drop_of_length_le (by omega), List.append_nil] at this
  rw [this]
  simp [Ti.cells]
theorem cs_txK (h : DataW.trod enc Tryz.prog W 0 (fun _ => true) true fuel 90 cs = some x) (hb : ∀ n ∈ x.1.weights Tryz.prog 90, n ≤ 140737488351232) : ∃ q : Tq, cs = q.cells ∧ q.can W ∧ ∀ y ∈ q.m.ins, y.key.size ≤ maxLen := by
  obtain ⟨xs, f, _, ex, hlen, hxl, each⟩ := DataW.trod_struct Tryz.underlying90 h
  have hx : xs.length = 4 := hxl
  have hl : cs.length = 4 := hlen.trans (by kernel_rfl)
  have hw : ∀ (j : Nat) (t : TypeId) (y : DataW H × List MemPlace), xs[j]? = some y → ([23, 87, 88, 23] : List TypeId)[j]? = some t → ∀ n ∈ y.1.weights Tryz.prog t, n ≤ 140737488351232 := by
    intro j t y hy ht n hn
    have ed : x.1 = .agg (xs.map (·.1)) := congrArg Prod.fst ex
    refine hb n ?_
    rw [ed]
    simp only [DataW.weights, Tryz.underlying90]
    exact DataW.weights_mem_each (t := t) (d := y.1) (j := j) ht (by rw [List.getElem?_map, hy]; rfl) n hn
  have h0 : DataW.trod enc Tryz.prog W 0 (fun _ => true) true f 23 ((cs.drop 0).take 1) = some xs[0] := (each 0 _ rfl).trans (List.getElem?_eq_getElem (by omega))
  have h1 : DataW.trod enc Tryz.prog W 0 (fun _ => true) true f 87 ((cs.drop 1).take 1) = some xs[1] := (each 1 _ rfl).trans (List.getElem?_eq_getElem (by omega))
  have h2 : DataW.trod enc Tryz.prog W 0 (fun _ => true) true f 88 ((cs.drop 2).take 1) = some xs[2] := (each 2 _ rfl).trans (List.getElem?_eq_getElem (by omega))
  have h3 : DataW.trod enc Tryz.prog W 0 (fun _ => true) true f 23 ((cs.drop 3).take 1) = some xs[3] := (each 3 _ rfl).trans (List.getElem?_eq_getElem (by omega))
  obtain ⟨n0, e0⟩ := cs_u32 Tryz.underlying23 h0
  obtain ⟨v1, n1, e1, l1, z1, p1⟩ := list_fun KA (fun y => y.key.size ≤ maxLen) (fun f cs y h => cs_inK h) h1 (hw 1 _ _ (List.getElem?_eq_getElem (by omega)) rfl)
  obtain ⟨v2, n2, e2, l2, z2, p2⟩ := list_fun KO (fun _ => True) (fun f cs y h => by obtain ⟨a, e⟩ := cs_out h; exact ⟨a, e, trivial⟩) h2 (hw 2 _ _ (List.getElem?_eq_getElem (by omega)) rfl)
  obtain ⟨n3, e3⟩ := cs_u32 Tryz.underlying23 h3
  obtain ⟨a1, c1, rfl⟩ := l1.form
  obtain ⟨a2, c2, rfl⟩ := l2.form
  refine ⟨⟨⟨n0, n1, n2, n3⟩, a1, c1, a2, c2⟩, ?_, ⟨⟨l1, l2⟩, ⟨z1, z2⟩⟩, p1⟩
  have := cut_at 1 e0 rfl
  rw [List.drop_zero, cut_at 2 e1 rfl, cut_at 3 e2 rfl, cut_at 4 e3 rfl, List.drop_of_length_le (by omega)] at this
  rw [this]
  rfl
end
end Go.Proofs.YtofddbjnncgmlabGreatDoor
namespace Go.Proofs.YtofddbjnncgmlabGreatDoor
open Go.ChangeShapes Go.WideShapes Go.ChangeAt Go.RowKit Go.Joins Go.Deep
set_option linter.unusedVariables false
set_option maxRecDepth 100000
section
variable {H : Type} {enc : TypeId × Value → H} {W : World} {base fuel : Nat} {cs : List Value} {x : DataW H × List MemPlace}
theorem cs_head (h : DataW.trod enc Tryz.prog W 0 (fun _ => true) true fuel 27 cs = some x) : ∃ y : Hd, cs = y.cells := by
  obtain ⟨xs, m, _, _, hlen, hxl, each⟩ := DataW.trod_struct Tryz.underlying27 h
  have hx : xs.length = 6 := hxl
  have hl : cs.length = 68 := hlen.trans (by kernel_rfl)
  have h0 : DataW.trod enc Tryz.prog W 0 (fun _ => true) true m 23 ((cs.drop 0).take 1) = some xs[0] := (each 0 _ rfl).trans (List.getElem?_eq_getElem (by omega))
  have h1 : DataW.trod enc Tryz.prog W 0 (fun _ => true) true m 25 ((cs.drop 1).take 32) = some xs[1] := (each 1 _ rfl).trans (List.getElem?_eq_getElem (by omega))
  have h2 : DataW.trod enc Tryz.prog W 0 (fun _ => true) true m 25 ((cs.drop 33).take 32) = some xs[2] := (each 2 _ rfl).trans (List.getElem?_eq_getElem (by omega))
  have h3 : DataW.trod enc Tryz.prog W 0 (fun _ => true) true m 23 ((cs.drop 65).take 1) = some xs[3] := (each 3 _ rfl).trans (List.getElem?_eq_getElem (by omega))
  have h4 : DataW.trod enc Tryz.prog W 0 (fun _ => true) true m 23 ((cs.drop 66).take 1) = some xs[4] := (each 4 _ rfl).trans (List.getElem?_eq_getElem (by omega))
  have h5 : DataW.trod enc Tryz.prog W 0 (fun _ => true) true m 23 ((cs.drop 67).take 1) = some xs[5] := (each 5 _ rfl).trans (List.getElem?_eq_getElem (by omega))
  obtain ⟨n0, e0⟩ := cs_u32 Tryz.underlying23 h0
  obtain ⟨n1, e1⟩ := cs_hash h1
  obtain ⟨n2, e2⟩ := cs_hash h2
  obtain ⟨n3, e3⟩ := cs_u32 Tryz.underlying23 h3
  obtain ⟨n4, e4⟩ := cs_u32 Tryz.underlying23 h4
  obtain ⟨n5, e5⟩ := cs_u32 Tryz.underlying23 h5
  refine ⟨⟨n0, n1.1, n2.1, n3, n4, n5, n1.2, n2.2⟩, ?_⟩
  have := cut_at 1 e0 rfl
  rw [List.drop_zero, cut_at 33 e1 rfl, cut_at 65 e2 rfl, cut_at 66 e3 rfl, cut_at 67 e4 rfl, cut_at 68 e5 rfl, List.drop_of_length_le (by omega), List.append_nil] at this
  rw [this]
  simp [Hd.cells]
end
section
variable {H : Type} {enc : TypeId × Value → H} {W : World} {base : Nat} {v : Value} {d : DataW H} {p : List MemPlace}
theorem open_head (hv : Value.okWide Tryz.prog W .any base 27 v) (h : DataW.Trod enc Tryz.prog W 0 (fun _ => true) true 27 v d p) : ∃ y : Hd, v = .agg y.cells.toArray := by
  simp only [Value.okWide, Tryz.underlying27] at hv
  obtain ⟨cs, rfl, hsz, _⟩ := hv
  obtain ⟨fuel, hf⟩ := h
  have hc1 : (Value.agg cs).cells.toList = cs.toList := by simp [Value.cells]
  rw [hc1] at hf
  obtain ⟨y, e⟩ := cs_head hf
  exact ⟨y, congrArg Value.agg (Array.toList_inj.1 (by rw [e]))⟩
end
end Go.Proofs.YtofddbjnncgmlabGreatDoor
