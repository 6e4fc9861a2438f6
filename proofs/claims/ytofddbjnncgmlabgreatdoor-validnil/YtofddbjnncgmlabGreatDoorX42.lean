/- A block that comes in. -/
import Derived.Test.YtofddbjnncgmlabGreatDoorX41
namespace Go.Proofs.YtofddbjnncgmlabGreatDoor
open Go.ChangeShapes Go.WideShapes Go.ChangeAt Go.RowKit Go.Joins Go.Deep
set_option linter.unusedVariables false
set_option maxRecDepth 100000
section
variable {H : Type} {enc : TypeId × Value → H} {W : World} {base fuel : Nat} {cs : List Value} {x : DataW H × List MemPlace}
theorem weights_mem_all {e : TypeId} {d : DataW H} : ∀ {ds : List (DataW H)}, d ∈ ds → ∀ n ∈ d.weights Tryz.prog e, n ∈ DataW.weightsAll Tryz.prog e ds
  | d0 :: ds, hd, n, hn => by
    simp only [DataW.weightsAll, List.mem_append]
    rcases List.mem_cons.1 hd with rfl | h
    · exact Or.inl hn
    · exact Or.inr (weights_mem_all h n hn)
/-- A slice that comes in is a list: its elements are known by their weights too. -/
theorem list_funW {α : Type} (E : Ek α) [Inhabited α] (P : α → Prop) (hel : ∀ (f : Nat) (cs : List Value) (y : DataW H × List MemPlace), DataW.trod enc Tryz.prog W 0 (fun _ => true) true f E.e cs = some y → (∀ n ∈ y.1.weights Tryz.prog E.e, n ≤ 140737488351232) → ∃ a : α, cs = E.enc a ∧ P a) (h : DataW.trod enc Tryz.prog W 0 (fun _ => true) true fuel E.t cs = some x) (hb : ∀ n ∈ x.1.weights Tryz.prog E.t, n ≤ 140737488351232) : ∃ (v : Value) (L : List α), cs = [v] ∧ LX E W v L ∧ L.length * E.b ≤ 140737488355328 ∧ ∀ a ∈ L, P a := by
  have hk : Tryz.prog.cellsOf E.e = E.k := by
    obtain ⟨i, z, hi, _, _, hs, _⟩ := E.parts
    simp [Program.cellsOf, hi, hs]
  have hby : Tryz.prog.bytesOf E.e = E.b := by
    obtain ⟨i, z, hi, _, _, _, hs⟩ := E.parts
    simp [Program.bytesOf, hi, hs]
  have hkp := E.kpos
  rcases open_slice E.sl h with ⟨rfl, _⟩ | ⟨a, len, cap, m, n, D, Pl, rfl, _, hl, hm, hmm, hxe, hx⟩
  · exact ⟨_, [], rfl, LX.nil W, by simp, fun a ha => by cases ha⟩
  · have hlong := slice_long9 E.sl h _ hb
    rw [hby] at hlong
    have each : ∀ i, i < len → ∃ q : α, P q ∧ ∃ g off, some a = some (⟨g, off, none⟩ : Addr) ∧ g < W.heap.size ∧ W.rangeAt g (off + i * E.k) (E.enc q) := by
      intro i hi
      obtain ⟨cs', h1, h2⟩ := hx i (by rw [hmm]; split <;> omega)
      rw [hk] at h1
      obtain ⟨_, hlen, hcell⟩ := World.cells?_some h1
      obtain ⟨q, hcs, hq⟩ := hel _ _ _ h2 (fun n hn => hb n (by
        rw [hxe]
        simp only [DataW.weights, E.sl]
        exact List.mem_cons_of_mem _ (List.mem_append_left _ (weights_mem_all (List.mem_map.2 ⟨i, List.mem_range.2 hi, rfl⟩) n hn))))
      obtain ⟨g, off, spot⟩ := a
      have hspot : spot = none := by
        obtain ⟨cz, hz1, hz2⟩ := hx 0 (by rw [hmm]; split <;> omega)
        rw [hk] at hz1
        obtain ⟨_, hzlen, hzcell⟩ := World.cells?_some hz1
        have cz0 := hzcell 0 (by omega)
        have h0 : cz[0]? = some (cz[0]'(by omega)) := List.getElem?_eq_getElem (by omega)
        rw [h0] at cz0
        simpa [Addr.add] using World.cell?_spot cz0
      subst hspot
      have hr : W.rangeAt g (off + i * E.k) cs' := fun j v hv => by
        have hj : j < E.k := by
          rcases Nat.lt_or_ge j E.k with h' | h'
          · exact h'
          · rw [List.getElem?_eq_none (by omega)] at hv; cases hv
        have := hcell j (by omega)
        rw [addr_add9, addr_add9, hv] at this
        exact this
      have hg : g < W.heap.size := by
        have h0 : cs'[0]? = some (cs'[0]'(by omega)) := List.getElem?_eq_getElem (by omega)
        exact block_lt_of_cell (a := ⟨g, off + i * E.k + 0, none⟩) (hr 0 _ h0)
      exact ⟨q, hq, g, off, rfl, hg, by rw [← hcs]; exact hr⟩
    obtain ⟨F, hF⟩ := choose_lt each
    refine ⟨_, (List.range len).map F, rfl, ⟨some a, cap, by simp, by simpa using hl, fun i hi => ?_⟩, by simp; omega, fun y hy => ?_⟩
    · have hi' : i < len := by simpa using hi
      simp only [List.getElem_map, List.getElem_range]
      exact (hF i hi').2
    · simp only [List.mem_map, List.mem_range] at hy
      obtain ⟨i, hi, rfl⟩ := hy
      exact (hF i hi).1
instance : Inhabited Tq := ⟨⟨zT, none, 0, none, 0⟩⟩
end
section
variable {H : Type} {enc : TypeId × Value → H} {W : World} {base : Nat} {v : Value} {d : DataW H} {p : List MemPlace}
theorem open_block (hv : Value.okWide Tryz.prog W .any base 30 v) (h : DataW.Trod enc Tryz.prog W 0 (fun _ => true) true 30 v d p) (hb : ∀ n ∈ d.weights Tryz.prog 30, n ≤ 140737488351232) : ∃ (y : Hd) (u : Value) (L : List Tq), v = .agg (bkA y u) ∧ LQ W u L ∧ L.length * 64 ≤ 140737488355328 := by
  simp only [Value.okWide, Tryz.underlying30] at hv
  obtain ⟨cs, rfl, hsz, _⟩ := hv
  obtain ⟨fuel, hf⟩ := h
  have hc1 : (Value.agg cs).cells.toList = cs.toList := by simp [Value.cells]
  rw [hc1] at hf
  generalize hcs : cs.toList = L at hf
  obtain ⟨xs, m, _, ex, hlen, hxl, each⟩ := DataW.trod_struct Tryz.underlying30 hf
  have hx : xs.length = 2 := hxl
  have hl : L.length = 69 := hlen.trans (by kernel_rfl)
  have hw : ∀ (j : Nat) (t : TypeId) (y : DataW H × List MemPlace), xs[j]? = some y → ([27, 28] : List TypeId)[j]? = some t → ∀ n ∈ y.1.weights Tryz.prog t, n ≤ 140737488351232 := by
    intro j t y hy ht n hn
    have ed : d = .agg (xs.map (·.1)) := congrArg Prod.fst ex
    refine hb n ?_
    rw [ed]
    simp only [DataW.weights, Tryz.underlying30]
    exact DataW.weights_mem_each (t := t) (d := y.1) (j := j) ht (by rw [List.getElem?_map, hy]; rfl) n hn
  have h0 : DataW.trod enc Tryz.prog W 0 (fun _ => true) true m 27 ((L.drop 0).take 68) = some xs[0] := (each 0 _ rfl).trans (List.getElem?_eq_getElem (by omega))
  have h1 : DataW.trod enc Tryz.prog W 0 (fun _ => true) true m 28 ((L.drop 68).take 1) = some xs[1] := (each 1 _ rfl).trans (List.getElem?_eq_getElem (by omega))
  obtain ⟨y, e0⟩ := cs_head h0
  obtain ⟨u, n1, e1, l1, z1, p1⟩ := list_funW KT (fun q => q.can W) (fun f cs y h hb => by obtain ⟨q, e, c, _⟩ := cs_txK h hb; exact ⟨q, e, c⟩) h1 (hw 1 _ _ (List.getElem?_eq_getElem (by omega)) rfl)
  refine ⟨y, u, n1, congrArg Value.agg (Array.toList_inj.1 ?_), ⟨l1, p1⟩, z1⟩
  have := cut_at 68 e0 rfl
  rw [List.drop_zero, cut_at 69 e1 rfl, List.drop_of_length_le (by omega), List.append_nil] at this
  rw [hcs, this]
  rfl
end
end Go.Proofs.YtofddbjnncgmlabGreatDoor
