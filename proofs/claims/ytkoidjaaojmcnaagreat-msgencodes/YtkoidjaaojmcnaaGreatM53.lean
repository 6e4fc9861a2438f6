/- Messages that come in. -/
import Derived.Test.YtkoidjaaojmcnaaGreatM10
import Derived.ProofKit
import Derived.OpenShut
import Derived.ShutString
import Derived.ChangeOld
import Derived.Below
import Derived.SizedLaws
import Derived.Lib.SmallJoins
namespace Go.Proofs.YtkoidjaaojmcnaaGreat
open Go.ChangeShapes Go.WideShapes Go.ChangeAt Go.RowKit Go.Joins Go.Deep
set_option linter.unusedVariables false
set_option maxRecDepth 100000
theorem cut_at {cs p : List Value} {a n : Nat} (b : Nat) (h : (cs.drop a).take n = p) (e : a + n = b) : cs.drop a = p ++ cs.drop b := by
  rw [← h, ← e, ← List.drop_drop, List.take_append_drop]
theorem addr_add9 (g o j : Nat) : (⟨g, o, none⟩ : Addr).add j = ⟨g, o + j, none⟩ := by unfold Addr.add; split <;> simp_all
def byteOf9 : Value → UInt8
  | .int _ n => UInt8.ofNat n.toNat
  | _ => 0
section
variable {H : Type} {enc : TypeId × Value → H} {W : World} {base fuel : Nat} {cs : List Value} {x : DataW H × List MemPlace}
theorem cs_u32 {t : TypeId} (hu : Tryz.prog.underlying t = some (.int .u32)) (h : DataW.trod enc Tryz.prog W 0 (fun _ => true) true fuel t cs = some x) : ∃ n : UInt32, cs = [.int .u32 (n.toNat : Int)] := by
  obtain ⟨a, ea, _, wa⟩ := DataW.trod_int hu h
  have hab : 0 ≤ a ∧ a ≤ 4294967295 := by simpa [Lit.wf, IntKind.min, IntKind.max, IntKind.signed, IntKind.bits] using wa
  refine ⟨UInt32.ofNat a.toNat, ?_⟩
  rw [ea, UInt32.toNat_ofNat', Nat.mod_eq_of_lt (by omega), Int.toNat_of_nonneg hab.1]
theorem cs_u64 {t : TypeId} (hu : Tryz.prog.underlying t = some (.int .u64)) (h : DataW.trod enc Tryz.prog W 0 (fun _ => true) true fuel t cs = some x) : ∃ n : UInt64, cs = [.int .u64 (n.toNat : Int)] := by
  obtain ⟨a, ea, _, wa⟩ := DataW.trod_int hu h
  have hab : 0 ≤ a ∧ a ≤ 18446744073709551615 := by simpa [Lit.wf, IntKind.min, IntKind.max, IntKind.signed, IntKind.bits] using wa
  refine ⟨UInt64.ofNat a.toNat, ?_⟩
  rw [ea, UInt64.toNat_ofNat', Nat.mod_eq_of_lt (by omega), Int.toNat_of_nonneg hab.1]
theorem cs_u16 {t : TypeId} (hu : Tryz.prog.underlying t = some (.int .u16)) (h : DataW.trod enc Tryz.prog W 0 (fun _ => true) true fuel t cs = some x) : ∃ n : UInt16, cs = [.int .u16 (n.toNat : Int)] := by
  obtain ⟨a, ea, _, wa⟩ := DataW.trod_int hu h
  have hab : 0 ≤ a ∧ a ≤ 65535 := by simpa [Lit.wf, IntKind.min, IntKind.max, IntKind.signed, IntKind.bits] using wa
  refine ⟨UInt16.ofNat a.toNat, ?_⟩
  rw [ea, UInt16.toNat_ofNat', Nat.mod_eq_of_lt (by omega), Int.toNat_of_nonneg hab.1]
theorem cs_i64 {t : TypeId} (hu : Tryz.prog.underlying t = some (.int .i64)) (h : DataW.trod enc Tryz.prog W 0 (fun _ => true) true fuel t cs = some x) : ∃ n : Int, cs = [.int .i64 n] ∧ -9223372036854775808 ≤ n ∧ n ≤ 9223372036854775807 := by
  obtain ⟨a, ea, _, wa⟩ := DataW.trod_int hu h
  have hab : -9223372036854775808 ≤ a ∧ a ≤ 9223372036854775807 := by simpa [Lit.wf, IntKind.min, IntKind.max, IntKind.signed, IntKind.bits] using wa
  exact ⟨a, ea, hab⟩
theorem cs_str {t : TypeId} (hu : Tryz.prog.underlying t = some .string) (h : DataW.trod enc Tryz.prog W 0 (fun _ => true) true fuel t cs = some x) : ∃ n : ByteArray, cs = [.string n] ∧ n.size ≤ maxLen := by
  obtain ⟨a, ea, _, wa⟩ := DataW.trod_string hu h
  exact ⟨a, ea, wa⟩
theorem cs_bool {t : TypeId} (hu : Tryz.prog.underlying t = some .bool) (h : DataW.trod enc Tryz.prog W 0 (fun _ => true) true fuel t cs = some x) : ∃ n : Bool, cs = [.bool n] := by
  obtain ⟨a, ea, _⟩ := DataW.trod_bool hu h
  exact ⟨a, ea⟩
theorem cs_bytes {t : TypeId} {n : Nat} (hu : Tryz.prog.underlying t = some (.array n 5)) (hc : Tryz.prog.cellsOf t = n) (h : DataW.trod enc Tryz.prog W 0 (fun _ => true) true fuel t cs = some x) : ∃ l : List UInt8, cs = cellsL l ∧ l.length = n := by
  obtain ⟨xs, m, _, _, hlen, hxl, each⟩ := DataW.trod_array hu h
  rw [hc] at hlen
  refine ⟨cs.map byteOf9, ?_, by simpa using hlen⟩
  apply List.ext_getElem
  · simp [cellsL]
  · intro i h1 h2
    have e := each i (by omega)
    rw [show Tryz.prog.cellsOf 5 = 1 by kernel_rfl, Nat.mul_one, List.drop_eq_getElem_cons h1, List.getElem?_eq_getElem (by omega)] at e
    simp only [List.take_succ_cons, List.take_zero] at e
    obtain ⟨a, ea, _, wa⟩ := DataW.trod_int Tryz.underlying5 e
    have hab : 0 ≤ a ∧ a ≤ 255 := by simpa [Lit.wf, IntKind.min, IntKind.max, IntKind.signed, IntKind.bits] using wa
    have ei : cs[i] = Value.int .u8 a := by simpa using ea
    simp only [cellsL, List.getElem_map]
    rw [ei]
    simp only [byteOf9]
    rw [UInt8.toNat_ofNat']
    exact congrArg (Value.int .u8) (by omega)
theorem cs_hash (h : DataW.trod enc Tryz.prog W 0 (fun _ => true) true fuel 32 cs = some x) : ∃ y : Id32, cs = cellsL y.1 := by
  obtain ⟨l, e, hl⟩ := cs_bytes Tryz.underlying32 (by kernel_rfl) h
  exact ⟨⟨l, hl⟩, e⟩
theorem cs_net (h : DataW.trod enc Tryz.prog W 0 (fun _ => true) true fuel 27 cs = some x) : ∃ y : Nt, cs = y.cells := by
  obtain ⟨xs, m, _, _, hlen, hxl, each⟩ := DataW.trod_struct Tryz.underlying27 h
  have hx : xs.length = 4 := hxl
  have hl : cs.length = 19 := hlen.trans (by kernel_rfl)
  have h0 : DataW.trod enc Tryz.prog W 0 (fun _ => true) true m 22 ((cs.drop 0).take 1) = some xs[0] := (each 0 _ rfl).trans (List.getElem?_eq_getElem (by omega))
  have h1 : DataW.trod enc Tryz.prog W 0 (fun _ => true) true m 23 ((cs.drop 1).take 1) = some xs[1] := (each 1 _ rfl).trans (List.getElem?_eq_getElem (by omega))
  have h2 : DataW.trod enc Tryz.prog W 0 (fun _ => true) true m 24 ((cs.drop 2).take 16) = some xs[2] := (each 2 _ rfl).trans (List.getElem?_eq_getElem (by omega))
  have h3 : DataW.trod enc Tryz.prog W 0 (fun _ => true) true m 25 ((cs.drop 18).take 1) = some xs[3] := (each 3 _ rfl).trans (List.getElem?_eq_getElem (by omega))
  obtain ⟨n0, e0⟩ := cs_u32 Tryz.underlying22 h0
  obtain ⟨n1, e1⟩ := cs_u64 Tryz.underlying23 h1
  obtain ⟨n2, e2, l2⟩ := cs_bytes Tryz.underlying24 (by kernel_rfl) h2
  obtain ⟨n3, e3⟩ := cs_u16 Tryz.underlying25 h3
  refine ⟨⟨n0, n1, n2, n3, l2⟩, ?_⟩
  have := cut_at 1 e0 rfl
  rw [List.drop_zero, cut_at 2 e1 rfl, cut_at 18 e2 rfl, cut_at 19 e3 rfl, List.drop_of_length_le (by omega)] at this
  rw [this]
  rfl
theorem cs_item (h : DataW.trod enc Tryz.prog W 0 (fun _ => true) true fuel 73 cs = some x) : ∃ y : Im, cs = y.cells := by
  obtain ⟨xs, m, _, _, hlen, hxl, each⟩ := DataW.trod_struct Tryz.underlying73 h
  have hx : xs.length = 2 := hxl
  have hl : cs.length = 33 := hlen.trans (by kernel_rfl)
  have h0 : DataW.trod enc Tryz.prog W 0 (fun _ => true) true m 22 ((cs.drop 0).take 1) = some xs[0] := (each 0 _ rfl).trans (List.getElem?_eq_getElem (by omega))
  have h1 : DataW.trod enc Tryz.prog W 0 (fun _ => true) true m 32 ((cs.drop 1).take 32) = some xs[1] := (each 1 _ rfl).trans (List.getElem?_eq_getElem (by omega))
  obtain ⟨n0, e0⟩ := cs_u32 Tryz.underlying22 h0
  obtain ⟨n1, e1⟩ := cs_hash h1
  refine ⟨⟨n0, n1.1, n1.2⟩, ?_⟩
  have := cut_at 1 e0 rfl
  rw [List.drop_zero, cut_at 33 e1 rfl, List.drop_of_length_le (by omega)] at this
  rw [this, List.append_nil]
  rfl
theorem cs_filled (h : DataW.trod enc Tryz.prog W 0 (fun _ => true) true fuel 77 cs = some x) : ∃ y : Fd, cs = y.cells ∧ (-9223372036854775808 ≤ y.place ∧ y.place ≤ 9223372036854775807) ∧ y.raw.size ≤ maxLen := by
  obtain ⟨xs, m, _, _, hlen, hxl, each⟩ := DataW.trod_struct Tryz.underlying77 h
  have hx : xs.length = 2 := hxl
  have hl : cs.length = 2 := hlen.trans (by kernel_rfl)
  have h0 : DataW.trod enc Tryz.prog W 0 (fun _ => true) true m 3 ((cs.drop 0).take 1) = some xs[0] := (each 0 _ rfl).trans (List.getElem?_eq_getElem (by omega))
  have h1 : DataW.trod enc Tryz.prog W 0 (fun _ => true) true m 9 ((cs.drop 1).take 1) = some xs[1] := (each 1 _ rfl).trans (List.getElem?_eq_getElem (by omega))
  obtain ⟨n0, e0, k0⟩ := cs_i64 Tryz.underlying3 h0
  obtain ⟨n1, e1, k1⟩ := cs_str Tryz.underlying9 h1
  refine ⟨⟨n0, n1⟩, ?_, k0, k1⟩
  have := cut_at 1 e0 rfl
  rw [List.drop_zero, cut_at 2 e1 rfl, List.drop_of_length_le (by omega)] at this
  rw [this]
  rfl
/-- How long a slice is that comes in. -/
theorem slice_long9 {t e : TypeId} {ao : Option Addr} {len cap : Nat} (hu : Tryz.prog.underlying t = some (.slice e)) (h : DataW.trod enc Tryz.prog W 0 (fun _ => true) true fuel t [.slice ao len cap] = some x) (b : Nat) (hb : ∀ n ∈ x.1.weights Tryz.prog t, n ≤ b) : len * Tryz.prog.bytesOf e ≤ b := by
  rcases DataW.trod_slice hu h with ⟨hcs, rfl⟩ | ⟨a, l, c, elems, rest, n, _, hcs, rfl, _, _, _, hel, _⟩
  · simp at hcs
    obtain ⟨rfl, rfl, rfl⟩ := hcs
    simp
  · simp at hcs
    obtain ⟨rfl, rfl, rfl⟩ := hcs
    have := hb ((elems.length + rest.length) * Tryz.prog.bytesOf e) (by simp [DataW.weights, hu])
    refine Nat.le_trans (Nat.mul_le_mul_right _ ?_) this
    omega
/-- A slice that comes in is a list. -/
theorem list_fun {α : Type} (E : Ek α) [Inhabited α] (P : α → Prop) (hel : ∀ (f : Nat) (cs : List Value) (y : DataW H × List MemPlace), DataW.trod enc Tryz.prog W 0 (fun _ => true) true f E.e cs = some y → ∃ a : α, cs = E.enc a ∧ P a) (h : DataW.trod enc Tryz.prog W 0 (fun _ => true) true fuel E.t cs = some x) (hb : ∀ n ∈ x.1.weights Tryz.prog E.t, n ≤ 140737488351232) : ∃ (v : Value) (L : List α), cs = [v] ∧ LX E W v L ∧ L.length * E.b ≤ 140737488355328 ∧ ∀ a ∈ L, P a := by
  have hk : Tryz.prog.cellsOf E.e = E.k := by
    obtain ⟨i, z, hi, _, _, hs, _⟩ := E.parts
    simp [Program.cellsOf, hi, hs]
  have hby : Tryz.prog.bytesOf E.e = E.b := by
    obtain ⟨i, z, hi, _, _, _, hs⟩ := E.parts
    simp [Program.bytesOf, hi, hs]
  have hkp := E.kpos
  rcases open_slice E.sl h with ⟨rfl, _⟩ | ⟨a, len, cap, m, n, D, Pl, rfl, _, hl, hm, hmm, hxe, hx⟩
  · exact ⟨_, [], rfl, LX.nil W, by simp, fun a ha => by cases ha⟩
  · have hlong := slice_long9 E.sl h _ hb
    rw [hby] at hlong
    have each : ∀ i, i < len → ∃ q : α, P q ∧ ∃ g off, some a = some (⟨g, off, none⟩ : Addr) ∧ g < W.heap.size ∧ W.rangeAt g (off + i * E.k) (E.enc q) := by
      intro i hi
      obtain ⟨cs', h1, h2⟩ := hx i (by rw [hmm]; split <;> omega)
      rw [hk] at h1
      obtain ⟨_, hlen, hcell⟩ := World.cells?_some h1
      obtain ⟨q, hcs, hq⟩ := hel _ _ _ h2
      obtain ⟨g, off, spot⟩ := a
      have hspot : spot = none := by
        obtain ⟨cz, hz1, hz2⟩ := hx 0 (by rw [hmm]; split <;> omega)
        rw [hk] at hz1
        obtain ⟨_, hzlen, hzcell⟩ := World.cells?_some hz1
        have cz0 := hzcell 0 (by omega)
        have h0 : cz[0]? = some (cz[0]'(by omega)) := List.getElem?_eq_getElem (by omega)
        rw [h0] at cz0
        simpa [Addr.add] using World.cell?_spot cz0
      subst hspot
      have hr : W.rangeAt g (off + i * E.k) cs' := fun j v hv => by
        have hj : j < E.k := by
          rcases Nat.lt_or_ge j E.k with h' | h'
          · exact h'
          · rw [List.getElem?_eq_none (by omega)] at hv; cases hv
        have := hcell j (by omega)
        rw [addr_add9, addr_add9, hv] at this
        exact this
      have hg : g < W.heap.size := by
        have h0 : cs'[0]? = some (cs'[0]'(by omega)) := List.getElem?_eq_getElem (by omega)
        exact block_lt_of_cell (a := ⟨g, off + i * E.k + 0, none⟩) (hr 0 _ h0)
      exact ⟨q, hq, g, off, rfl, hg, by rw [← hcs]; exact hr⟩
    obtain ⟨F, hF⟩ := choose_lt each
    refine ⟨_, (List.range len).map F, rfl, ⟨some a, cap, by simp, by simpa using hl, fun i hi => ?_⟩, by simp; omega, fun y hy => ?_⟩
    · have hi' : i < len := by simpa using hi
      simp only [List.getElem_map, List.getElem_range]
      exact (hF i hi').2
    · simp only [List.mem_map, List.mem_range] at hy
      obtain ⟨i, hi, rfl⟩ := hy
      exact (hF i hi).1
instance : Inhabited Nt := ⟨zN⟩
instance : Inhabited Im := ⟨⟨0, List.replicate 32 0, by simp⟩⟩
instance : Inhabited Id32 := ⟨zI⟩
instance : Inhabited Fd := ⟨⟨0, ByteArray.empty⟩⟩
def inI64 (n : Int) : Prop := -9223372036854775808 ≤ n ∧ n ≤ 9223372036854775807
/-- What is known of numbers and texts in a message that comes in. -/
structure Mg.told (m : Mg) : Prop where
  kind : inI64 m.kind
  time : inI64 m.time
  agent : m.agent.size ≤ maxLen
  head : m.head.size ≤ maxLen
  raw : m.raw.size ≤ maxLen
  heads : ∀ a ∈ m.heads, a.size ≤ maxLen
  filled : ∀ a ∈ m.filled, inI64 a.place ∧ a.raw.size ≤ maxLen
  places : ∀ a ∈ m.places, inI64 a
  raws : ∀ a ∈ m.raws, a.size ≤ maxLen
  rawW : m.raw.size ≤ 140737488351232
theorem cs_strW {t : TypeId} {N : Nat} (hu : Tryz.prog.underlying t = some .string) (h : DataW.trod enc Tryz.prog W 0 (fun _ => true) true fuel t cs = some x) (hb : ∀ n ∈ x.1.weights Tryz.prog t, n ≤ N) : ∃ n : ByteArray, cs = [.string n] ∧ n.size ≤ maxLen ∧ n.size ≤ N := by
  obtain ⟨a, ea, ex, wa⟩ := DataW.trod_string hu h
  refine ⟨a, ea, wa, ?_⟩
  have hl : a.data.toList.length = a.size := by simp
  have := hb a.data.toList.length (by rw [ex]; simp [DataW.weights])
  omega
theorem cs_msg (h : DataW.trod enc Tryz.prog W 0 (fun _ => true) true fuel 38 cs = some x) (hb : ∀ n ∈ x.1.weights Tryz.prog 38, n ≤ 140737488351232) : ∃ (m : Mg) (s : Vs), cs = m.cells s ∧ ML W s m ∧ m.small ∧ m.told := by
  obtain ⟨xs, f, _, ex, hlen, hxl, each⟩ := DataW.trod_struct Tryz.underlying38 h
  have hx : xs.length = 23 := hxl
  have hl : cs.length = 121 := hlen.trans (by kernel_rfl)
  have hw : ∀ (j : Nat) (t : TypeId) (y : DataW H × List MemPlace), xs[j]? = some y → ([3, 22, 23, 23, 2, 27, 27, 9, 22, 4, 4, 28, 29, 30, 32, 32, 33, 9, 9, 34, 35, 36, 33] : List TypeId)[j]? = some t → ∀ n ∈ y.1.weights Tryz.prog t, n ≤ 140737488351232 := by
    intro j t y hy ht n hn
    have ed : x.1 = .agg (xs.map (·.1)) := congrArg Prod.fst ex
    refine hb n ?_
    rw [ed]
    simp only [DataW.weights, Tryz.underlying38]
    exact DataW.weights_mem_each (t := t) (d := y.1) (j := j) ht (by rw [List.getElem?_map, hy]; rfl) n hn
  have h0 : DataW.trod enc Tryz.prog W 0 (fun _ => true) true f 3 ((cs.drop 0).take 1) = some xs[0] := (each 0 _ rfl).trans (List.getElem?_eq_getElem (by omega))
  have h1 : DataW.trod enc Tryz.prog W 0 (fun _ => true) true f 22 ((cs.drop 1).take 1) = some xs[1] := (each 1 _ rfl).trans (List.getElem?_eq_getElem (by omega))
  have h2 : DataW.trod enc Tryz.prog W 0 (fun _ => true) true f 23 ((cs.drop 2).take 1) = some xs[2] := (each 2 _ rfl).trans (List.getElem?_eq_getElem (by omega))
  have h3 : DataW.trod enc Tryz.prog W 0 (fun _ => true) true f 23 ((cs.drop 3).take 1) = some xs[3] := (each 3 _ rfl).trans (List.getElem?_eq_getElem (by omega))
  have h4 : DataW.trod enc Tryz.prog W 0 (fun _ => true) true f 2 ((cs.drop 4).take 1) = some xs[4] := (each 4 _ rfl).trans (List.getElem?_eq_getElem (by omega))
  have h5 : DataW.trod enc Tryz.prog W 0 (fun _ => true) true f 27 ((cs.drop 5).take 19) = some xs[5] := (each 5 _ rfl).trans (List.getElem?_eq_getElem (by omega))
  have h6 : DataW.trod enc Tryz.prog W 0 (fun _ => true) true f 27 ((cs.drop 24).take 19) = some xs[6] := (each 6 _ rfl).trans (List.getElem?_eq_getElem (by omega))
  have h7 : DataW.trod enc Tryz.prog W 0 (fun _ => true) true f 9 ((cs.drop 43).take 1) = some xs[7] := (each 7 _ rfl).trans (List.getElem?_eq_getElem (by omega))
  have h8 : DataW.trod enc Tryz.prog W 0 (fun _ => true) true f 22 ((cs.drop 44).take 1) = some xs[8] := (each 8 _ rfl).trans (List.getElem?_eq_getElem (by omega))
  have h9 : DataW.trod enc Tryz.prog W 0 (fun _ => true) true f 4 ((cs.drop 45).take 1) = some xs[9] := (each 9 _ rfl).trans (List.getElem?_eq_getElem (by omega))
  have h10 : DataW.trod enc Tryz.prog W 0 (fun _ => true) true f 4 ((cs.drop 46).take 1) = some xs[10] := (each 10 _ rfl).trans (List.getElem?_eq_getElem (by omega))
  have h11 : DataW.trod enc Tryz.prog W 0 (fun _ => true) true f 28 ((cs.drop 47).take 1) = some xs[11] := (each 11 _ rfl).trans (List.getElem?_eq_getElem (by omega))
  have h12 : DataW.trod enc Tryz.prog W 0 (fun _ => true) true f 29 ((cs.drop 48).take 1) = some xs[12] := (each 12 _ rfl).trans (List.getElem?_eq_getElem (by omega))
  have h13 : DataW.trod enc Tryz.prog W 0 (fun _ => true) true f 30 ((cs.drop 49).take 1) = some xs[13] := (each 13 _ rfl).trans (List.getElem?_eq_getElem (by omega))
  have h14 : DataW.trod enc Tryz.prog W 0 (fun _ => true) true f 32 ((cs.drop 50).take 32) = some xs[14] := (each 14 _ rfl).trans (List.getElem?_eq_getElem (by omega))
  have h15 : DataW.trod enc Tryz.prog W 0 (fun _ => true) true f 32 ((cs.drop 82).take 32) = some xs[15] := (each 15 _ rfl).trans (List.getElem?_eq_getElem (by omega))
  have h16 : DataW.trod enc Tryz.prog W 0 (fun _ => true) true f 33 ((cs.drop 114).take 1) = some xs[16] := (each 16 _ rfl).trans (List.getElem?_eq_getElem (by omega))
  have h17 : DataW.trod enc Tryz.prog W 0 (fun _ => true) true f 9 ((cs.drop 115).take 1) = some xs[17] := (each 17 _ rfl).trans (List.getElem?_eq_getElem (by omega))
  have h18 : DataW.trod enc Tryz.prog W 0 (fun _ => true) true f 9 ((cs.drop 116).take 1) = some xs[18] := (each 18 _ rfl).trans (List.getElem?_eq_getElem (by omega))
  have h19 : DataW.trod enc Tryz.prog W 0 (fun _ => true) true f 34 ((cs.drop 117).take 1) = some xs[19] := (each 19 _ rfl).trans (List.getElem?_eq_getElem (by omega))
  have h20 : DataW.trod enc Tryz.prog W 0 (fun _ => true) true f 35 ((cs.drop 118).take 1) = some xs[20] := (each 20 _ rfl).trans (List.getElem?_eq_getElem (by omega))
  have h21 : DataW.trod enc Tryz.prog W 0 (fun _ => true) true f 36 ((cs.drop 119).take 1) = some xs[21] := (each 21 _ rfl).trans (List.getElem?_eq_getElem (by omega))
  have h22 : DataW.trod enc Tryz.prog W 0 (fun _ => true) true f 33 ((cs.drop 120).take 1) = some xs[22] := (each 22 _ rfl).trans (List.getElem?_eq_getElem (by omega))
  obtain ⟨n0, e0, k0⟩ := cs_i64 Tryz.underlying3 h0
  obtain ⟨n1, e1⟩ := cs_u32 Tryz.underlying22 h1
  obtain ⟨n2, e2⟩ := cs_u64 Tryz.underlying23 h2
  obtain ⟨n3, e3⟩ := cs_u64 Tryz.underlying23 h3
  obtain ⟨n4, e4, k4⟩ := cs_i64 Tryz.underlying2 h4
  obtain ⟨n5, e5⟩ := cs_net h5
  obtain ⟨n6, e6⟩ := cs_net h6
  obtain ⟨n7, e7, k7⟩ := cs_str Tryz.underlying9 h7
  obtain ⟨n8, e8⟩ := cs_u32 Tryz.underlying22 h8
  obtain ⟨n9, e9⟩ := cs_bool Tryz.underlying4 h9
  obtain ⟨n10, e10⟩ := cs_bool Tryz.underlying4 h10
  obtain ⟨v11, n11, e11, l11, z11, p11⟩ := list_fun KN (fun _ => True) (fun f cs y h => by obtain ⟨a, e⟩ := cs_net h; exact ⟨a, e, trivial⟩) h11 (hw 11 _ _ (List.getElem?_eq_getElem (by omega)) rfl)
  obtain ⟨v12, n12, e12, l12, z12, p12⟩ := list_fun KI (fun _ => True) (fun f cs y h => by obtain ⟨a, e⟩ := cs_item h; exact ⟨a, e, trivial⟩) h12 (hw 12 _ _ (List.getElem?_eq_getElem (by omega)) rfl)
  obtain ⟨v13, n13, e13, l13, z13, p13⟩ := list_fun KH (fun _ => True) (fun f cs y h => by obtain ⟨a, e⟩ := cs_hash h; exact ⟨a, e, trivial⟩) h13 (hw 13 _ _ (List.getElem?_eq_getElem (by omega)) rfl)
  obtain ⟨n14, e14⟩ := cs_hash h14
  obtain ⟨n15, e15⟩ := cs_hash h15
  obtain ⟨v16, n16, e16, l16, z16, p16⟩ := list_fun KS (fun a => a.size ≤ maxLen) (fun f cs y h => cs_str Tryz.underlying9 h) h16 (hw 16 _ _ (List.getElem?_eq_getElem (by omega)) rfl)
  obtain ⟨n17, e17, k17⟩ := cs_str Tryz.underlying9 h17
  obtain ⟨n18, e18, k18, q18⟩ := cs_strW Tryz.underlying9 h18 (hw 18 _ _ (List.getElem?_eq_getElem (by omega)) rfl)
  obtain ⟨v19, n19, e19, l19, z19, p19⟩ := list_fun KU (fun _ => True) (fun f cs y h => by obtain ⟨a, e⟩ := cs_u64 Tryz.underlying23 h; exact ⟨a, e, trivial⟩) h19 (hw 19 _ _ (List.getElem?_eq_getElem (by omega)) rfl)
  obtain ⟨v20, n20, e20, l20, z20, p20⟩ := list_fun KF (fun a => inI64 a.place ∧ a.raw.size ≤ maxLen) (fun f cs y h => cs_filled h) h20 (hw 20 _ _ (List.getElem?_eq_getElem (by omega)) rfl)
  obtain ⟨v21, n21, e21, l21, z21, p21⟩ := list_fun KP (inI64) (fun f cs y h => cs_i64 Tryz.underlying3 h) h21 (hw 21 _ _ (List.getElem?_eq_getElem (by omega)) rfl)
  obtain ⟨v22, n22, e22, l22, z22, p22⟩ := list_fun KS (fun a => a.size ≤ maxLen) (fun f cs y h => cs_str Tryz.underlying9 h) h22 (hw 22 _ _ (List.getElem?_eq_getElem (by omega)) rfl)
  refine ⟨⟨n0, n1, n2, n3, n4, n5, n6, n7, n8, n9, n10, n11, n12, n13, n14, n15, n16, n17, n18, n19, n20, n21, n22⟩, ⟨v11, v12, v13, v16, v19, v20, v21, v22⟩, ?_, ⟨l11, l12, l13, l16, l19, l20, l21, l22⟩, ⟨z11, z12, z13, z16, z19, z20, z21, z22⟩, ⟨k0, k4, k7, k17, k18, p16, p20, p21, p22, q18⟩⟩
  have := cut_at 1 e0 rfl
  rw [List.drop_zero, cut_at 2 e1 rfl, cut_at 3 e2 rfl, cut_at 4 e3 rfl, cut_at 5 e4 rfl, cut_at 24 e5 rfl, cut_at 43 e6 rfl, cut_at 44 e7 rfl, cut_at 45 e8 rfl, cut_at 46 e9 rfl, cut_at 47 e10 rfl, cut_at 48 e11 rfl, cut_at 49 e12 rfl, cut_at 50 e13 rfl, cut_at 82 e14 rfl, cut_at 114 e15 rfl, cut_at 115 e16 rfl, cut_at 116 e17 rfl, cut_at 117 e18 rfl, cut_at 118 e19 rfl, cut_at 119 e20 rfl, cut_at 120 e21 rfl, cut_at 121 e22 rfl, List.drop_of_length_le (by omega)] at this
  rw [this]
  simp [Mg.cells, Mg.c0, Mg.c1, Mg.c2]
end
section
variable {H : Type} {enc : TypeId × Value → H} {W : World} {base : Nat} {v : Value} {d : DataW H} {p : List MemPlace}
theorem open_msg (hv : Value.okWide Tryz.prog W .any base 38 v) (h : DataW.Trod enc Tryz.prog W 0 (fun _ => true) true 38 v d p) (hb : ∀ n ∈ d.weights Tryz.prog 38, n ≤ 140737488351232) : ∃ (m : Mg) (s : Vs), v = .agg (m.cells s).toArray ∧ ML W s m ∧ m.small ∧ m.told := by
  simp only [Value.okWide, Tryz.underlying38] at hv
  obtain ⟨cs, rfl, hsz, _⟩ := hv
  obtain ⟨fuel, hf⟩ := h
  have hc1 : (Value.agg cs).cells.toList = cs.toList := by simp [Value.cells]
  rw [hc1] at hf
  obtain ⟨m, s, e, hm, hz, ht⟩ := cs_msg hf hb
  exact ⟨m, s, by rw [← e], hm, hz, ht⟩
theorem weighs9 {ts : List TypeId} {ds : List (DataW H)} (h : (DataW.weightsEach Tryz.prog ts ds).all (· ≤ reachBytes) = true) {j : Nat} {t : TypeId} {d : DataW H} (ht : ts[j]? = some t) (hd : ds[j]? = some d) : ∀ n ∈ d.weights Tryz.prog t, n ≤ 140737488351232 := by
  intro n hn
  have := List.all_eq_true.1 h _ (DataW.weights_mem_each ht hd n hn)
  simp only [reachBytes] at this
  exact of_decide_eq_true this
end
theorem laidOut9 : laidOutB Tryz.prog = true := by kernel_rfl
end Go.Proofs.YtkoidjaaojmcnaaGreat
