/- What comes in: a height, an extra, outputs and a transaction; transactions whose keys are texts. -/
import Derived.Test.YtdkemnjkhclbkaaDoorX40
import Derived.Test.YtdkemnjkhclbkaaDoorX41
namespace Go.Proofs.YtdkemnjkhclbkaaDoor
open Go.ChangeShapes Go.WideShapes Go.ChangeAt Go.RowKit Go.Joins Go.Deep
set_option linter.unusedVariables false
set_option maxRecDepth 100000
section
variable {H : Type} {enc : TypeId × Value → H} {W : World} {base fuel : Nat} {cs : List Value} {x : DataW H × List MemPlace}
theorem cs_inK (h : DataW.trod enc Tryd.prog W 0 (fun _ => true) true fuel 90 cs = some x) : ∃ y : Ti, cs = y.cells ∧ y.key.size ≤ maxLen := by
  obtain ⟨xs, m, _, _, hlen, hxl, each⟩ := DataW.trod_struct Tryd.underlying90 h
  have hx : xs.length = 3 := hxl
  have hl : cs.length = 35 := hlen.trans (by kernel_rfl)
  have h0 : DataW.trod enc Tryd.prog W 0 (fun _ => true) true m 87 ((cs.drop 0).take 33) = some xs[0] := (each 0 _ rfl).trans (List.getElem?_eq_getElem (by omega))
  have h1 : DataW.trod enc Tryd.prog W 0 (fun _ => true) true m 9 ((cs.drop 33).take 1) = some xs[1] := (each 1 _ rfl).trans (List.getElem?_eq_getElem (by omega))
  have h2 : DataW.trod enc Tryd.prog W 0 (fun _ => true) true m 22 ((cs.drop 34).take 1) = some xs[2] := (each 2 _ rfl).trans (List.getElem?_eq_getElem (by omega))
  obtain ⟨n0, m0, e0⟩ := cs_point h0
  obtain ⟨n1, e1, k1⟩ := cs_str Tryd.underlying9 h1
  obtain ⟨n2, e2⟩ := cs_u32 Tryd.underlying22 h2
  refine ⟨⟨n0.1, m0, n1, n2, n0.2⟩, ?_, k1⟩
  have := cut_at 33 e0 rfl
  rw [List.drop_zero, cut_at 34 e1 rfl, cut_at 35 e2 rfl, List.drop_of_length_le (by omega), List.append_nil] at this
  rw [this]
  simp [Ti.cells]
theorem cs_txK (h : DataW.trod enc Tryd.prog W 0 (fun _ => true) true fuel 47 cs = some x) (hb : ∀ n ∈ x.1.weights Tryd.prog 47, n ≤ 140737488351232) : ∃ q : Tq, cs = q.cells ∧ q.can W ∧ ∀ y ∈ q.m.ins, y.key.size ≤ maxLen := by
  obtain ⟨xs, f, _, ex, hlen, hxl, each⟩ := DataW.trod_struct Tryd.underlying47 h
  have hx : xs.length = 4 := hxl
  have hl : cs.length = 4 := hlen.trans (by kernel_rfl)
  have hw : ∀ (j : Nat) (t : TypeId) (y : DataW H × List MemPlace), xs[j]? = some y → ([22, 45, 44, 22] : List TypeId)[j]? = some t → ∀ n ∈ y.1.weights Tryd.prog t, n ≤ 140737488351232 := by
    intro j t y hy ht n hn
    have ed : x.1 = .agg (xs.map (·.1)) := congrArg Prod.fst ex
    refine hb n ?_
    rw [ed]
    simp only [DataW.weights, Tryd.underlying47]
    exact DataW.weights_mem_each (t := t) (d := y.1) (j := j) ht (by rw [List.getElem?_map, hy]; rfl) n hn
  have h0 : DataW.trod enc Tryd.prog W 0 (fun _ => true) true f 22 ((cs.drop 0).take 1) = some xs[0] := (each 0 _ rfl).trans (List.getElem?_eq_getElem (by omega))
  have h1 : DataW.trod enc Tryd.prog W 0 (fun _ => true) true f 45 ((cs.drop 1).take 1) = some xs[1] := (each 1 _ rfl).trans (List.getElem?_eq_getElem (by omega))
  have h2 : DataW.trod enc Tryd.prog W 0 (fun _ => true) true f 44 ((cs.drop 2).take 1) = some xs[2] := (each 2 _ rfl).trans (List.getElem?_eq_getElem (by omega))
  have h3 : DataW.trod enc Tryd.prog W 0 (fun _ => true) true f 22 ((cs.drop 3).take 1) = some xs[3] := (each 3 _ rfl).trans (List.getElem?_eq_getElem (by omega))
  obtain ⟨n0, e0⟩ := cs_u32 Tryd.underlying22 h0
  obtain ⟨v1, n1, e1, l1, z1, p1⟩ := list_fun KA (fun y => y.key.size ≤ maxLen) (fun f cs y h => cs_inK h) h1 (hw 1 _ _ (List.getElem?_eq_getElem (by omega)) rfl)
  obtain ⟨v2, n2, e2, l2, z2, p2⟩ := list_fun KO (fun _ => True) (fun f cs y h => by obtain ⟨a, e⟩ := cs_out h; exact ⟨a, e, trivial⟩) h2 (hw 2 _ _ (List.getElem?_eq_getElem (by omega)) rfl)
  obtain ⟨n3, e3⟩ := cs_u32 Tryd.underlying22 h3
  obtain ⟨a1, c1, rfl⟩ := l1.form
  obtain ⟨a2, c2, rfl⟩ := l2.form
  refine ⟨⟨⟨n0, n1, n2, n3⟩, a1, c1, a2, c2⟩, ?_, ⟨⟨l1, l2⟩, ⟨z1, z2⟩⟩, p1⟩
  have := cut_at 1 e0 rfl
  rw [List.drop_zero, cut_at 2 e1 rfl, cut_at 3 e2 rfl, cut_at 4 e3 rfl, List.drop_of_length_le (by omega)] at this
  rw [this]
  rfl
end
section
variable {H : Type} {enc : TypeId × Value → H} {W : World} {base : Nat} {v : Value} {d : DataW H} {p : List MemPlace}
theorem open_base (hv : Value.okWide Tryd.prog W .any base 49 v) (h : DataW.Trod enc Tryd.prog W 0 (fun _ => true) true 49 v d p) (hb : ∀ n ∈ d.weights Tryd.prog 49, n ≤ 140737488351232) : ∃ (n : Int) (s : ByteArray) (u : Value) (L : List Tu) (q : Tq), v = .agg (bsL n s u q).toArray ∧ (-9223372036854775808 ≤ n ∧ n ≤ 9223372036854775807) ∧ LX KO W u L ∧ L.length * 24 ≤ 140737488355328 ∧ q.can W ∧ ∀ y ∈ q.m.ins, y.key.size ≤ maxLen := by
  simp only [Value.okWide, Tryd.underlying49] at hv
  obtain ⟨cs, rfl, hsz, _⟩ := hv
  obtain ⟨fuel, hf⟩ := h
  have hc1 : (Value.agg cs).cells.toList = cs.toList := by simp [Value.cells]
  rw [hc1] at hf
  generalize hcs : cs.toList = L at hf
  obtain ⟨xs, m, _, ex, hlen, hxl, each⟩ := DataW.trod_struct Tryd.underlying49 hf
  have hx : xs.length = 4 := hxl
  have hl : L.length = 7 := hlen.trans (by kernel_rfl)
  have hw : ∀ (j : Nat) (t : TypeId) (y : DataW H × List MemPlace), xs[j]? = some y → ([3, 9, 44, 47] : List TypeId)[j]? = some t → ∀ n ∈ y.1.weights Tryd.prog t, n ≤ 140737488351232 := by
    intro j t y hy ht n hn
    have ed : d = .agg (xs.map (·.1)) := congrArg Prod.fst ex
    refine hb n ?_
    rw [ed]
    simp only [DataW.weights, Tryd.underlying49]
    exact DataW.weights_mem_each (t := t) (d := y.1) (j := j) ht (by rw [List.getElem?_map, hy]; rfl) n hn
  have h0 : DataW.trod enc Tryd.prog W 0 (fun _ => true) true m 3 ((L.drop 0).take 1) = some xs[0] := (each 0 _ rfl).trans (List.getElem?_eq_getElem (by omega))
  have h1 : DataW.trod enc Tryd.prog W 0 (fun _ => true) true m 9 ((L.drop 1).take 1) = some xs[1] := (each 1 _ rfl).trans (List.getElem?_eq_getElem (by omega))
  have h2 : DataW.trod enc Tryd.prog W 0 (fun _ => true) true m 44 ((L.drop 2).take 1) = some xs[2] := (each 2 _ rfl).trans (List.getElem?_eq_getElem (by omega))
  have h3 : DataW.trod enc Tryd.prog W 0 (fun _ => true) true m 47 ((L.drop 3).take 4) = some xs[3] := (each 3 _ rfl).trans (List.getElem?_eq_getElem (by omega))
  obtain ⟨n0, e0, k0⟩ := cs_i64 Tryd.underlying3 h0
  obtain ⟨n1, e1, _⟩ := cs_str Tryd.underlying9 h1
  obtain ⟨v2, n2, e2, l2, z2, p2⟩ := list_fun KO (fun _ => True) (fun f cs y h => by obtain ⟨a, e⟩ := cs_out h; exact ⟨a, e, trivial⟩) h2 (hw 2 _ _ (List.getElem?_eq_getElem (by omega)) rfl)
  obtain ⟨q, e3, c3, k3⟩ := cs_txK h3 (hw 3 _ _ (List.getElem?_eq_getElem (by omega)) rfl)
  refine ⟨n0, n1, v2, n2, q, congrArg Value.agg (Array.toList_inj.1 ?_), k0, l2, z2, c3, k3⟩
  have := cut_at 1 e0 rfl
  rw [List.drop_zero, cut_at 2 e1 rfl, cut_at 3 e2 rfl, cut_at 7 e3 rfl, List.drop_of_length_le (by omega), List.append_nil] at this
  rw [hcs, this]
  rfl
end
end Go.Proofs.YtdkemnjkhclbkaaDoor
