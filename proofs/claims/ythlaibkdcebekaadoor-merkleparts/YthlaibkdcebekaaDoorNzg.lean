/- Marks and partial trees that come in. -/
import Derived.Test.YthlaibkdcebekaaDoorMv
import Derived.Test.YthlaibkdcebekaaDoorNx1
namespace Go.Proofs.YthlaibkdcebekaaDoor
open Go.ChangeShapes Go.WideShapes Go.ChangeAt Go.RowKit Go.Joins Go.Deep
set_option linter.unusedVariables false
set_option maxRecDepth 100000
theorem cellBo : Tryd.prog.cellsOf 4 = 1 := by kernel_rfl
theorem cellIn : Tryd.prog.cellsOf 3 = 1 := by kernel_rfl
theorem cellSb : Tryd.prog.cellsOf 23 = 1 := by kernel_rfl
theorem cellSh : Tryd.prog.cellsOf 22 = 1 := by kernel_rfl
theorem cellPa : Tryd.prog.cellsOf 25 = 3 := by kernel_rfl
theorem bytesBo : Tryd.prog.bytesOf 4 = 1 := by kernel_rfl
theorem bytesHa : Tryd.prog.bytesOf 39 = 32 := by kernel_rfl
section
variable {H : Type} {enc : TypeId × Value → H} {W : World} {base fuel : Nat} {v : Value} {d : DataW H} {p : List MemPlace}
/-- How long a slice is that comes in. -/
theorem slice_long {t e : TypeId} {ao : Option Addr} {len cap : Nat} {x : DataW H × List MemPlace} (hu : Tryd.prog.underlying t = some (.slice e)) (h : DataW.trod enc Tryd.prog W 0 (fun _ => true) true fuel t [.slice ao len cap] = some x) (b : Nat) (hb : ∀ n ∈ x.1.weights Tryd.prog t, n ≤ b) : len * Tryd.prog.bytesOf e ≤ b := by
  rcases DataW.trod_slice hu h with ⟨hcs, rfl⟩ | ⟨a, l, c, elems, rest, n, _, hcs, rfl, _, _, _, hel, _⟩
  · simp at hcs
    obtain ⟨rfl, rfl, rfl⟩ := hcs
    simp
  · simp at hcs
    obtain ⟨rfl, rfl, rfl⟩ := hcs
    have := hb ((elems.length + rest.length) * Tryd.prog.bytesOf e) (by simp [DataW.weights, hu])
    refine Nat.le_trans (Nat.mul_le_mul_right _ ?_) this
    omega
theorem marks_fun {ao : Option Addr} {len cap : Nat} {x : DataW H × List MemPlace} (h : DataW.trod enc Tryd.prog W 0 (fun _ => true) true fuel 23 [.slice ao len cap] = some x) : ∃ L : List Bool, L.length = len ∧ LB W (.slice ao len cap) L := by
  rcases open_slice Tryd.underlying23 h with ⟨hcs, _⟩ | ⟨a, l, c, m, n, D, Pl, hcs, _, hl, hm, hmm, rfl, hx⟩
  · simp at hcs
    obtain ⟨rfl, rfl, rfl⟩ := hcs
    exact ⟨[], rfl, none, 0, rfl, Nat.le_refl _, fun i hi => absurd hi (Nat.not_lt_zero _)⟩
  · simp at hcs
    obtain ⟨rfl, rfl, rfl⟩ := hcs
    have each : ∀ i, i < len → ∃ q : Bool, ∃ g off, some a = some (⟨g, off, none⟩ : Addr) ∧ g < W.heap.size ∧ W.cell? ⟨g, off + i, none⟩ = some (.bool q) := by
      intro i hi
      obtain ⟨cs', h1, h2⟩ := hx i (by rw [hmm]; split <;> omega)
      rw [cellBo] at h1
      obtain ⟨_, hlen, hcell⟩ := World.cells?_some h1
      obtain ⟨q, rfl, _⟩ := DataW.trod_bool Tryd.underlying4 h2
      obtain ⟨g, off, spot⟩ := a
      have hspot : spot = none := by
        obtain ⟨cz, hz1, hz2⟩ := hx 0 (by rw [hmm]; split <;> omega)
        rw [cellBo] at hz1
        obtain ⟨_, hzlen, hzcell⟩ := World.cells?_some hz1
        have cz0 := hzcell 0 (by omega)
        have h0 : cz[0]? = some (cz[0]'(by omega)) := List.getElem?_eq_getElem (by omega)
        rw [h0] at cz0
        simpa [Addr.add] using World.cell?_spot cz0
      subst hspot
      have hc0 := hcell 0 (by omega)
      rw [addr_add, addr_add, Nat.mul_one, Nat.add_zero] at hc0
      have hc1 : W.cell? ⟨g, off + i, none⟩ = some (.bool q) := hc0
      exact ⟨q, g, off, rfl, block_lt_of_cell hc1, hc1⟩
    obtain ⟨F, hF⟩ := choose_lt each
    refine ⟨(List.range len).map F, by simp, some a, cap, by simp, by simpa using hl, fun i hi => ?_⟩
    have hi' : i < len := by simpa using hi
    obtain ⟨g, off, e, hg, hc⟩ := hF i hi'
    refine ⟨g, off, e, hg, ?_⟩
    rw [hc]
    simp [List.getD_eq_getElem?_getD, hi']
/-- Marks that come in. -/
theorem open_marks (hv : Value.okWide Tryd.prog W .any base 23 v) (h : DataW.Trod enc Tryd.prog W 0 (fun _ => true) true 23 v d p) (hb : ∀ n ∈ d.weights Tryd.prog 23, n ≤ 140737488351232) : ∃ L : List Bool, LB W v L ∧ L.length < 4611686018427387904 := by
  obtain ⟨ao, len, cap, rfl⟩ := okWide_slice Tryd.underlying23 hv
  obtain ⟨fuel, hf⟩ := h
  have hf' : DataW.trod enc Tryd.prog W 0 (fun _ => true) true fuel 23 [.slice ao len cap] = some (d, p) := by simpa [Value.cells] using hf
  obtain ⟨L, hl, hL⟩ := marks_fun hf'
  have := slice_long Tryd.underlying23 hf' _ hb
  rw [bytesBo] at this
  exact ⟨L, hL, by omega⟩
theorem ids_of {ao : Option Addr} {len cap : Nat} {x : DataW H × List MemPlace} (h : DataW.trod enc Tryd.prog W 0 (fun _ => true) true fuel 22 [.slice ao len cap] = some x) : ∃ L : List (List UInt8), L.length = len ∧ LH W (.slice ao len cap) L := by
  obtain ⟨id, hids, hlc, hcm⟩ := ids_fun h
  have hat : ∀ i, i < len → ia ((List.range len).map id) i = id i := fun i hi => by simp [ia, hi]
  refine ⟨(List.range len).map id, by simp, fun h hh => ?_, ao, cap, by simp, by simpa using hlc, fun i hi => ?_⟩
  · simp only [List.mem_map, List.mem_range] at hh
    obtain ⟨i, hi, rfl⟩ := hh
    exact (hids i hi).1
  · have hi' : i < len := by simpa using hi
    rw [hat i hi']
    exact (hids i hi').2
/-- A partial tree that comes in. -/
theorem open_partial (hv : Value.okWide Tryd.prog W .any base 25 v) (h : DataW.Trod enc Tryd.prog W 0 (fun _ => true) true 25 v d p) (hb : ∀ n ∈ d.weights Tryd.prog 25, n ≤ 140737488351232) : ∃ (c : Int) (vb vi : Value) (bs : List Bool) (is : List (List UInt8)), v = .agg #[.int .i64 c, vb, vi] ∧ LB W vb bs ∧ LH W vi is ∧ bs.length < 4611686018427387904 ∧ is.length < 4398046511104 := by
  simp only [Value.okWide, Tryd.underlying25] at hv
  obtain ⟨cs, rfl, hsz, _⟩ := hv
  rw [cellPa] at hsz
  obtain ⟨fuel, hf⟩ := h
  have hc1 : (Value.agg cs).cells.toList = cs.toList := by simp [Value.cells]
  rw [hc1] at hf
  obtain ⟨l⟩ := cs
  match l, hsz with
  | [x0, x1, x2], _ =>
    obtain ⟨xs, m, _, ex, _, hxl, each⟩ := DataW.trod_struct Tryd.underlying25 hf
    have hxl' : xs.length = 3 := hxl
    have h0 : DataW.trod enc Tryd.prog W 0 (fun _ => true) true m 3 ((([x0, x1, x2] : List Value).drop 0).take (Tryd.prog.cellsOf 3)) = xs[0]? := each 0 _ rfl
    have h1 : DataW.trod enc Tryd.prog W 0 (fun _ => true) true m 23 ((([x0, x1, x2] : List Value).drop 1).take (Tryd.prog.cellsOf 23)) = xs[1]? := each 1 _ rfl
    have h2 : DataW.trod enc Tryd.prog W 0 (fun _ => true) true m 22 ((([x0, x1, x2] : List Value).drop 2).take (Tryd.prog.cellsOf 22)) = xs[2]? := each 2 _ rfl
    rw [cellIn, List.getElem?_eq_getElem (by omega)] at h0
    rw [cellSb, List.getElem?_eq_getElem (by omega)] at h1
    rw [cellSh, List.getElem?_eq_getElem (by omega)] at h2
    simp only [List.drop_succ_cons, List.drop_zero, List.take_succ_cons, List.take_zero] at h0 h1 h2
    obtain ⟨c, ec, _⟩ := DataW.trod_int Tryd.underlying3 h0
    obtain rfl := (List.cons.inj ec).1
    have hw : ∀ (j : Nat) (t : TypeId) (y : DataW H × List MemPlace), xs[j]? = some y → ([3, 23, 22] : List TypeId)[j]? = some t → ∀ n ∈ y.1.weights Tryd.prog t, n ≤ 140737488351232 := by
      intro j t y hy ht n hn
      have ed : d = .agg (xs.map (·.1)) := (Prod.mk.inj ex).1
      refine hb n ?_
      rw [ed]
      simp only [DataW.weights, Tryd.underlying25]
      exact DataW.weights_mem_each (t := t) (d := y.1) (j := j) ht (by rw [List.getElem?_map, hy]; rfl) n hn
    obtain ⟨a1, l1, c1, rfl⟩ : ∃ a n c, x1 = .slice a n c := by
      rcases DataW.trod_slice Tryd.underlying23 h1 with ⟨hcs, _⟩ | ⟨a, l, c, elems, rest, n, _, hcs, _⟩
      · exact ⟨_, _, _, (List.cons.inj hcs).1⟩
      · exact ⟨_, _, _, (List.cons.inj hcs).1⟩
    obtain ⟨a2, l2, c2, rfl⟩ : ∃ a n c, x2 = .slice a n c := by
      rcases DataW.trod_slice Tryd.underlying22 h2 with ⟨hcs, _⟩ | ⟨a, l, c, elems, rest, n, _, hcs, _⟩
      · exact ⟨_, _, _, (List.cons.inj hcs).1⟩
      · exact ⟨_, _, _, (List.cons.inj hcs).1⟩
    obtain ⟨bs, eb, hbs⟩ := marks_fun h1
    obtain ⟨is, ei, his⟩ := ids_of h2
    have z1 := slice_long Tryd.underlying23 h1 _ (hw 1 _ _ (List.getElem?_eq_getElem (by omega)) rfl)
    have z2 := slice_long Tryd.underlying22 h2 _ (hw 2 _ _ (List.getElem?_eq_getElem (by omega)) rfl)
    rw [bytesBo] at z1
    rw [bytesHa] at z2
    exact ⟨c, _, _, bs, is, rfl, hbs, his, by omega, by omega⟩
/-- What a reading weighs at most. -/
theorem weighs {ts : List TypeId} {ds : List (DataW H)} (h : (DataW.weightsEach Tryd.prog ts ds).all (· ≤ reachBytes) = true) {j : Nat} {t : TypeId} {d : DataW H} (ht : ts[j]? = some t) (hd : ds[j]? = some d) : ∀ n ∈ d.weights Tryd.prog t, n ≤ 140737488351232 := by
  intro n hn
  have := List.all_eq_true.1 h _ (DataW.weights_mem_each ht hd n hn)
  simp only [reachBytes] at this
  exact of_decide_eq_true this
end
end Go.Proofs.YthlaibkdcebekaaDoor
