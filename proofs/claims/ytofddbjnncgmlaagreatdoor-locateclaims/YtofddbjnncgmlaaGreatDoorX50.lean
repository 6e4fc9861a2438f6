/- Marks and partial trees that come in. -/
import Derived.Test.YtofddbjnncgmlaaGreatDoorX49
import Derived.Test.YtofddbjnncgmlaaGreatDoorX47
namespace Go.Proofs.YtofddbjnncgmlaaGreatDoor
open Go.ChangeShapes Go.WideShapes Go.ChangeAt Go.RowKit Go.Joins Go.Deep
set_option linter.unusedVariables false
set_option maxRecDepth 100000
theorem cellBo : Tryz.prog.cellsOf 4 = 1 := by kernel_rfl
theorem cellIn : Tryz.prog.cellsOf 3 = 1 := by kernel_rfl
theorem cellSb : Tryz.prog.cellsOf 60 = 1 := by kernel_rfl
theorem cellSh : Tryz.prog.cellsOf 40 = 1 := by kernel_rfl
theorem bytesBo : Tryz.prog.bytesOf 4 = 1 := by kernel_rfl
theorem bytesHa : Tryz.prog.bytesOf 46 = 32 := by kernel_rfl
section
variable {H : Type} {enc : TypeId × Value → H} {W : World} {base fuel : Nat} {v : Value} {d : DataW H} {p : List MemPlace}
/-- How long a slice is that comes in. -/
theorem slice_long {t e : TypeId} {ao : Option Addr} {len cap : Nat} {x : DataW H × List MemPlace} (hu : Tryz.prog.underlying t = some (.slice e)) (h : DataW.trod enc Tryz.prog W 0 (fun _ => true) true fuel t [.slice ao len cap] = some x) (b : Nat) (hb : ∀ n ∈ x.1.weights Tryz.prog t, n ≤ b) : len * Tryz.prog.bytesOf e ≤ b := by
  rcases DataW.trod_slice hu h with ⟨hcs, rfl⟩ | ⟨a, l, c, elems, rest, n, _, hcs, rfl, _, _, _, hel, _⟩
  · simp at hcs
    obtain ⟨rfl, rfl, rfl⟩ := hcs
    simp
  · simp at hcs
    obtain ⟨rfl, rfl, rfl⟩ := hcs
    have := hb ((elems.length + rest.length) * Tryz.prog.bytesOf e) (by simp [DataW.weights, hu])
    refine Nat.le_trans (Nat.mul_le_mul_right _ ?_) this
    omega
theorem marks_fun {ao : Option Addr} {len cap : Nat} {x : DataW H × List MemPlace} (h : DataW.trod enc Tryz.prog W 0 (fun _ => true) true fuel 60 [.slice ao len cap] = some x) : ∃ L : List Bool, L.length = len ∧ LB W (.slice ao len cap) L := by
  rcases open_slice Tryz.underlying60 h with ⟨hcs, _⟩ | ⟨a, l, c, m, n, D, Pl, hcs, _, hl, hm, hmm, rfl, hx⟩
  · simp at hcs
    obtain ⟨rfl, rfl, rfl⟩ := hcs
    exact ⟨[], rfl, none, 0, rfl, Nat.le_refl _, fun i hi => absurd hi (Nat.not_lt_zero _)⟩
  · simp at hcs
    obtain ⟨rfl, rfl, rfl⟩ := hcs
    have each : ∀ i, i < len → ∃ q : Bool, ∃ g off, some a = some (⟨g, off, none⟩ : Addr) ∧ g < W.heap.size ∧ W.cell? ⟨g, off + i, none⟩ = some (.bool q) := by
      intro i hi
      obtain ⟨cs', h1, h2⟩ := hx i (by rw [hmm]; split <;> omega)
      rw [cellBo] at h1
      obtain ⟨_, hlen, hcell⟩ := World.cells?_some h1
      obtain ⟨q, rfl, _⟩ := DataW.trod_bool Tryz.underlying4 h2
      obtain ⟨g, off, spot⟩ := a
      have hspot : spot = none := by
        obtain ⟨cz, hz1, hz2⟩ := hx 0 (by rw [hmm]; split <;> omega)
        rw [cellBo] at hz1
        obtain ⟨_, hzlen, hzcell⟩ := World.cells?_some hz1
        have cz0 := hzcell 0 (by omega)
        have h0 : cz[0]? = some (cz[0]'(by omega)) := List.getElem?_eq_getElem (by omega)
        rw [h0] at cz0
        simpa [Addr.add] using World.cell?_spot cz0
      subst hspot
      have hc0 := hcell 0 (by omega)
      rw [addr_add, addr_add, Nat.mul_one, Nat.add_zero] at hc0
      have hc1 : W.cell? ⟨g, off + i, none⟩ = some (.bool q) := hc0
      exact ⟨q, g, off, rfl, block_lt_of_cell hc1, hc1⟩
    obtain ⟨F, hF⟩ := choose_lt each
    refine ⟨(List.range len).map F, by simp, some a, cap, by simp, by simpa using hl, fun i hi => ?_⟩
    have hi' : i < len := by simpa using hi
    obtain ⟨g, off, e, hg, hc⟩ := hF i hi'
    refine ⟨g, off, e, hg, ?_⟩
    rw [hc]
    simp [List.getD_eq_getElem?_getD, hi']
/-- Marks that come in. -/
theorem open_marks (hv : Value.okWide Tryz.prog W .any base 60 v) (h : DataW.Trod enc Tryz.prog W 0 (fun _ => true) true 60 v d p) (hb : ∀ n ∈ d.weights Tryz.prog 60, n ≤ 140737488351232) : ∃ L : List Bool, LB W v L ∧ L.length < 4611686018427387904 := by
  obtain ⟨ao, len, cap, rfl⟩ := okWide_slice Tryz.underlying60 hv
  obtain ⟨fuel, hf⟩ := h
  have hf' : DataW.trod enc Tryz.prog W 0 (fun _ => true) true fuel 60 [.slice ao len cap] = some (d, p) := by simpa [Value.cells] using hf
  obtain ⟨L, hl, hL⟩ := marks_fun hf'
  have := slice_long Tryz.underlying60 hf' _ hb
  rw [bytesBo] at this
  exact ⟨L, hL, by omega⟩
theorem ids_of {ao : Option Addr} {len cap : Nat} {x : DataW H × List MemPlace} (h : DataW.trod enc Tryz.prog W 0 (fun _ => true) true fuel 40 [.slice ao len cap] = some x) : ∃ L : List (List UInt8), L.length = len ∧ LH W (.slice ao len cap) L := by
  obtain ⟨id, hids, hlc, hcm⟩ := ids_fun h
  have hat : ∀ i, i < len → ia ((List.range len).map id) i = id i := fun i hi => by simp [ia, hi]
  refine ⟨(List.range len).map id, by simp, fun h hh => ?_, ao, cap, by simp, by simpa using hlc, fun i hi => ?_⟩
  · simp only [List.mem_map, List.mem_range] at hh
    obtain ⟨i, hi, rfl⟩ := hh
    exact (hids i hi).1
  · have hi' : i < len := by simpa using hi
    rw [hat i hi']
    exact (hids i hi').2
/-- What a reading weighs at most. -/
theorem weighs {ts : List TypeId} {ds : List (DataW H)} (h : (DataW.weightsEach Tryz.prog ts ds).all (· ≤ reachBytes) = true) {j : Nat} {t : TypeId} {d : DataW H} (ht : ts[j]? = some t) (hd : ds[j]? = some d) : ∀ n ∈ d.weights Tryz.prog t, n ≤ 140737488351232 := by
  intro n hn
  have := List.all_eq_true.1 h _ (DataW.weights_mem_each ht hd n hn)
  simp only [reachBytes] at this
  exact of_decide_eq_true this
end
end Go.Proofs.YtofddbjnncgmlaaGreatDoor
