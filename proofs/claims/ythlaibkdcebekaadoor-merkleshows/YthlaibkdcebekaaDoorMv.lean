/- A list of ids that comes in. -/
import Derived.Test.YthlaibkdcebekaaDoorV
import Derived.Test.YthlaibkdcebekaaDoorMga
namespace Go.Proofs.YthlaibkdcebekaaDoor
open Go.ChangeShapes Go.WideShapes Go.ChangeAt Go.RowKit Go.Joins Go.Deep
set_option linter.unusedVariables false
set_option maxRecDepth 100000
theorem cellH : Tryd.prog.cellsOf 39 = 32 := by kernel_rfl
/-- Cells that read as an id are those of 32 bytes. -/
theorem hash_cells {H : Type} {enc : TypeId × Value → H} {W : World} {base : Nat} {sp : Nat → Bool} {held : Bool} {fuel : Nat} {cs : List Value} {x : DataW H × List MemPlace} (h : DataW.trod enc Tryd.prog W base sp held fuel 39 cs = some x) : cs = cellsL (cs.map byteOf) ∧ cs.length = 32 := by
  obtain ⟨xs, m, _, _, hlen, hxl, each⟩ := DataW.trod_array Tryd.underlying39 h
  rw [cellH] at hlen
  refine ⟨?_, hlen⟩
  apply List.ext_getElem
  · simp [cellsL]
  · intro i h1 h2
    have e := each i (by omega)
    rw [cells5, Nat.mul_one, List.drop_eq_getElem_cons h1, List.getElem?_eq_getElem (by omega)] at e
    simp only [List.take_succ_cons, List.take_zero] at e
    obtain ⟨a, ea, _, wa⟩ := DataW.trod_int Tryd.underlying5 e
    have hab : 0 ≤ a ∧ a ≤ 255 := by simpa [Lit.wf, IntKind.min, IntKind.max, IntKind.signed, IntKind.bits] using wa
    have ei : cs[i] = Value.int .u8 a := by simpa using ea
    simp only [cellsL, List.getElem_map]
    rw [ei]
    simp only [byteOf]
    rw [UInt8.toNat_ofNat']
    exact congrArg (Value.int .u8) (by omega)
theorem addr_add (g o j : Nat) : (⟨g, o, none⟩ : Addr).add j = ⟨g, o + j, none⟩ := by unfold Addr.add; split <;> simp_all
theorem ids_fun {H : Type} {enc : TypeId × Value → H} {w : World} {fuel : Nat} {ao : Option Addr} {len cap : Nat} {x : DataW H × List MemPlace}
    (h : DataW.trod enc Tryd.prog w 0 (fun _ => true) true fuel 22 [.slice ao len cap] = some x) : ∃ id : Nat → List UInt8, (∀ i, i < len → (id i).length = 32 ∧ ∃ g off, ao = some ⟨g, off, none⟩ ∧ g < w.heap.size ∧ w.rangeAt g (off + i * 32) (cellsL (id i))) ∧ len ≤ cap ∧ cap ≤ maxLen := by
  rcases open_slice Tryd.underlying22 h with ⟨hcs, _⟩ | ⟨a, l, c, m, n, D, Pl, hcs, _, hl, hm, hmm, rfl, hx⟩
  · simp at hcs
    obtain ⟨rfl, rfl, rfl⟩ := hcs
    exact ⟨fun _ => default, fun i hi => absurd hi (by omega), Nat.le_refl _, Nat.zero_le _⟩
  · simp at hcs
    obtain ⟨rfl, rfl, rfl⟩ := hcs
    have each : ∀ i, i < len → ∃ q : List UInt8, q.length = 32 ∧ ∃ g off, some a = some (⟨g, off, none⟩ : Addr) ∧ g < w.heap.size ∧ w.rangeAt g (off + i * 32) (cellsL q) := by
      intro i hi
      obtain ⟨cs', h1, h2⟩ := hx i (by rw [hmm]; split <;> omega)
      rw [cellH] at h1
      obtain ⟨_, hlen, hcell⟩ := World.cells?_some h1
      obtain ⟨hcs, h32⟩ := hash_cells h2
      obtain ⟨g, off, spot⟩ := a
      have hspot : spot = none := by
        obtain ⟨cz, hz1, hz2⟩ := hx 0 (by rw [hmm]; split <;> omega)
        rw [cellH] at hz1
        obtain ⟨_, hzlen, hzcell⟩ := World.cells?_some hz1
        have cz0 := hzcell 0 (by omega)
        have h0 : cz[0]? = some (cz[0]'(by omega)) := List.getElem?_eq_getElem (by omega)
        rw [h0] at cz0
        simpa [Addr.add] using World.cell?_spot cz0
      subst hspot
      have hr : w.rangeAt g (off + i * 32) cs' := fun j v hv => by
        have hj : j < 32 := by
          rcases Nat.lt_or_ge j 32 with h' | h'
          · exact h'
          · rw [List.getElem?_eq_none (by omega)] at hv; cases hv
        have := hcell j (by omega)
        rw [addr_add, addr_add, hv] at this
        exact this
      have hg : g < w.heap.size := by
        have h0 : cs'[0]? = some (cs'[0]'(by omega)) := List.getElem?_eq_getElem (by omega)
        exact block_lt_of_cell (a := ⟨g, off + i * 32 + 0, none⟩) (hr 0 _ h0)
      exact ⟨cs'.map byteOf, by simpa using h32, g, off, rfl, hg, by rw [← hcs]; exact hr⟩
    obtain ⟨F, hF⟩ := choose_lt each
    exact ⟨F, hF, hl, hm⟩
/-- A slice of ids that comes in is a list of ids. -/
theorem open_hashes {H : Type} {enc : TypeId × Value → H} {W : World} {base : Nat} {v : Value} {d : DataW H} {p : List MemPlace} (hv : Value.okWide Tryd.prog W .any base 22 v) (h : DataW.Trod enc Tryd.prog W 0 (fun _ => true) true 22 v d p) : ∃ L, LH W v L := by
  obtain ⟨ao, len, cap, rfl⟩ := okWide_slice Tryd.underlying22 hv
  obtain ⟨fuel, hf⟩ := h
  obtain ⟨id, hids, hlc, hcm⟩ := ids_fun (x := (d, p)) (by simpa [Value.cells] using hf)
  have hat : ∀ i, i < len → ia ((List.range len).map id) i = id i := fun i hi => by simp [ia, hi]
  refine ⟨(List.range len).map id, fun h hh => ?_, ao, cap, by simp, by simpa using hlc, fun i hi => ?_⟩
  · simp only [List.mem_map, List.mem_range] at hh
    obtain ⟨i, hi, rfl⟩ := hh
    exact (hids i hi).1
  · have hi' : i < len := by simpa using hi
    rw [hat i hi']
    exact (hids i hi').2
end Go.Proofs.YthlaibkdcebekaaDoor
