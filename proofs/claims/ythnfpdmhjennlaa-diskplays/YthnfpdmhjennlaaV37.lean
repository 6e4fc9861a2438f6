/- What is done to a disk, as it comes in. -/
import Derived.Test.YthnfpdmhjennlaaV36
import Derived.ProofKit
import Derived.OpenShut
import Derived.ShutString
import Derived.ChangeOld
import Derived.Below
import Derived.SizedLaws
import Derived.Lib.SmallJoins
namespace Go.Proofs.Ythnfpdmhjennlaa
open Go.ChangeShapes Go.WideShapes Go.ChangeAt Go.RowKit Go.Joins Go.Deep
set_option linter.unusedVariables false
set_option maxRecDepth 100000
theorem cut_at {cs p : List Value} {a n : Nat} (b : Nat) (h : (cs.drop a).take n = p) (e : a + n = b) : cs.drop a = p ++ cs.drop b := by
  rw [← h, ← e, ← List.drop_drop, List.take_append_drop]
theorem addr_add9 (g o j : Nat) : (⟨g, o, none⟩ : Addr).add j = ⟨g, o + j, none⟩ := by unfold Addr.add; split <;> simp_all
section
variable {H : Type} {enc : TypeId × Value → H} {W : World} {base fuel : Nat} {cs : List Value} {x : DataW H × List MemPlace}
theorem cs_i64 {t : TypeId} (hu : Try.prog.underlying t = some (.int .i64)) (h : DataW.trod enc Try.prog W 0 (fun _ => true) true fuel t cs = some x) : ∃ n : Int, cs = [.int .i64 n] ∧ -9223372036854775808 ≤ n ∧ n ≤ 9223372036854775807 := by
  obtain ⟨a, ea, _, wa⟩ := DataW.trod_int hu h
  have hab : -9223372036854775808 ≤ a ∧ a ≤ 9223372036854775807 := by simpa [Lit.wf, IntKind.min, IntKind.max, IntKind.signed, IntKind.bits] using wa
  exact ⟨a, ea, hab⟩
theorem cs_str {t : TypeId} (hu : Try.prog.underlying t = some .string) (h : DataW.trod enc Try.prog W 0 (fun _ => true) true fuel t cs = some x) : ∃ n : ByteArray, cs = [.string n] ∧ n.size ≤ maxLen := by
  obtain ⟨a, ea, _, wa⟩ := DataW.trod_string hu h
  exact ⟨a, ea, wa⟩
theorem cs_bool {t : TypeId} (hu : Try.prog.underlying t = some .bool) (h : DataW.trod enc Try.prog W 0 (fun _ => true) true fuel t cs = some x) : ∃ n : Bool, cs = [.bool n] := by
  obtain ⟨a, ea, _⟩ := DataW.trod_bool hu h
  exact ⟨a, ea⟩
/-- How long a slice is that comes in. -/
theorem slice_long9 {t e : TypeId} {ao : Option Addr} {len cap : Nat} (hu : Try.prog.underlying t = some (.slice e)) (h : DataW.trod enc Try.prog W 0 (fun _ => true) true fuel t [.slice ao len cap] = some x) (b : Nat) (hb : ∀ n ∈ x.1.weights Try.prog t, n ≤ b) : len * Try.prog.bytesOf e ≤ b := by
  rcases DataW.trod_slice hu h with ⟨hcs, rfl⟩ | ⟨a, l, c, elems, rest, n, _, hcs, rfl, _, _, _, hel, _⟩
  · simp at hcs
    obtain ⟨rfl, rfl, rfl⟩ := hcs
    simp
  · simp at hcs
    obtain ⟨rfl, rfl, rfl⟩ := hcs
    have := hb ((elems.length + rest.length) * Try.prog.bytesOf e) (by simp [DataW.weights, hu])
    refine Nat.le_trans (Nat.mul_le_mul_right _ ?_) this
    omega
theorem weights_mem_all {e : TypeId} {d : DataW H} : ∀ {ds : List (DataW H)}, d ∈ ds → ∀ n ∈ d.weights Try.prog e, n ∈ DataW.weightsAll Try.prog e ds
  | d0 :: ds, hd, n, hn => by
    simp only [DataW.weightsAll, List.mem_append]
    rcases List.mem_cons.1 hd with rfl | h
    · exact Or.inl hn
    · exact Or.inr (weights_mem_all h n hn)
/-- A slice that comes in is a list: its elements are known by their weights too. -/
theorem list_funW {α : Type} (E : Ek α) [Inhabited α] (P : α → Prop) (hel : ∀ (f : Nat) (cs : List Value) (y : DataW H × List MemPlace), DataW.trod enc Try.prog W 0 (fun _ => true) true f E.e cs = some y → (∀ n ∈ y.1.weights Try.prog E.e, n ≤ 140737488351232) → ∃ a : α, cs = E.enc a ∧ P a) (h : DataW.trod enc Try.prog W 0 (fun _ => true) true fuel E.t cs = some x) (hb : ∀ n ∈ x.1.weights Try.prog E.t, n ≤ 140737488351232) : ∃ (v : Value) (L : List α), cs = [v] ∧ LX E W v L ∧ L.length * E.b ≤ 140737488355328 ∧ ∀ a ∈ L, P a := by
  have hk : Try.prog.cellsOf E.e = E.k := by
    obtain ⟨i, z, hi, _, _, hs, _⟩ := E.parts
    simp [Program.cellsOf, hi, hs]
  have hby : Try.prog.bytesOf E.e = E.b := by
    obtain ⟨i, z, hi, _, _, _, hs⟩ := E.parts
    simp [Program.bytesOf, hi, hs]
  have hkp := E.kpos
  rcases open_slice E.sl h with ⟨rfl, _⟩ | ⟨a, len, cap, m, n, D, Pl, rfl, _, hl, hm, hmm, hxe, hx⟩
  · exact ⟨_, [], rfl, LX.nil W, by simp, fun a ha => by cases ha⟩
  · have hlong := slice_long9 E.sl h _ hb
    rw [hby] at hlong
    have each : ∀ i, i < len → ∃ q : α, P q ∧ ∃ g off, some a = some (⟨g, off, none⟩ : Addr) ∧ g < W.heap.size ∧ W.rangeAt g (off + i * E.k) (E.enc q) := by
      intro i hi
      obtain ⟨cs', h1, h2⟩ := hx i (by rw [hmm]; split <;> omega)
      rw [hk] at h1
      obtain ⟨_, hlen, hcell⟩ := World.cells?_some h1
      obtain ⟨q, hcs, hq⟩ := hel _ _ _ h2 (fun n hn => hb n (by
        rw [hxe]
        simp only [DataW.weights, E.sl]
        exact List.mem_cons_of_mem _ (List.mem_append_left _ (weights_mem_all (List.mem_map.2 ⟨i, List.mem_range.2 hi, rfl⟩) n hn))))
      obtain ⟨g, off, spot⟩ := a
      have hspot : spot = none := by
        obtain ⟨cz, hz1, hz2⟩ := hx 0 (by rw [hmm]; split <;> omega)
        rw [hk] at hz1
        obtain ⟨_, hzlen, hzcell⟩ := World.cells?_some hz1
        have cz0 := hzcell 0 (by omega)
        have h0 : cz[0]? = some (cz[0]'(by omega)) := List.getElem?_eq_getElem (by omega)
        rw [h0] at cz0
        simpa [Addr.add] using World.cell?_spot cz0
      subst hspot
      have hr : W.rangeAt g (off + i * E.k) cs' := fun j v hv => by
        have hj : j < E.k := by
          rcases Nat.lt_or_ge j E.k with h' | h'
          · exact h'
          · rw [List.getElem?_eq_none (by omega)] at hv; cases hv
        have := hcell j (by omega)
        rw [addr_add9, addr_add9, hv] at this
        exact this
      have hg : g < W.heap.size := by
        have h0 : cs'[0]? = some (cs'[0]'(by omega)) := List.getElem?_eq_getElem (by omega)
        exact block_lt_of_cell (a := ⟨g, off + i * E.k + 0, none⟩) (hr 0 _ h0)
      exact ⟨q, hq, g, off, rfl, hg, by rw [← hcs]; exact hr⟩
    obtain ⟨F, hF⟩ := choose_lt each
    refine ⟨_, (List.range len).map F, rfl, ⟨some a, cap, by simp, by simpa using hl, fun i hi => ?_⟩, by simp; omega, fun y hy => ?_⟩
    · have hi' : i < len := by simpa using hi
      simp only [List.getElem_map, List.getElem_range]
      exact (hF i hi').2
    · simp only [List.mem_map, List.mem_range] at hy
      obtain ⟨i, hi, rfl⟩ := hy
      exact (hF i hi).1
instance : Inhabited Fl := ⟨⟨0, 0, 0, false⟩⟩
instance : Inhabited Az := ⟨⟨0, 0, 0, ⟨#[]⟩, ⟨#[]⟩, ⟨#[]⟩, none, 0, 0⟩⟩
theorem cs_fall (h : DataW.trod enc Try.prog W 0 (fun _ => true) true fuel 92 cs = some x) : ∃ f : Fl, cs = flv f ∧ -9223372036854775808 ≤ f.keep ∧ f.keep < 9223372036854775808 := by
  obtain ⟨xs, m, _, _, hlen, hxl, each⟩ := DataW.trod_struct Try.underlying92 h
  have hx : xs.length = 4 := hxl
  have hl : cs.length = 4 := hlen.trans (by kernel_rfl)
  have h0 : DataW.trod enc Try.prog W 0 (fun _ => true) true m 3 ((cs.drop 0).take 1) = some xs[0] := (each 0 _ rfl).trans (List.getElem?_eq_getElem (by omega))
  have h1 : DataW.trod enc Try.prog W 0 (fun _ => true) true m 3 ((cs.drop 1).take 1) = some xs[1] := (each 1 _ rfl).trans (List.getElem?_eq_getElem (by omega))
  have h2 : DataW.trod enc Try.prog W 0 (fun _ => true) true m 3 ((cs.drop 2).take 1) = some xs[2] := (each 2 _ rfl).trans (List.getElem?_eq_getElem (by omega))
  have h3 : DataW.trod enc Try.prog W 0 (fun _ => true) true m 4 ((cs.drop 3).take 1) = some xs[3] := (each 3 _ rfl).trans (List.getElem?_eq_getElem (by omega))
  obtain ⟨n0, e0, _⟩ := cs_i64 Try.underlying3 h0
  obtain ⟨n1, e1, k1, k2⟩ := cs_i64 Try.underlying3 h1
  obtain ⟨n2, e2, _⟩ := cs_i64 Try.underlying3 h2
  obtain ⟨n3, e3⟩ := cs_bool Try.underlying4 h3
  refine ⟨⟨n0, n1, n2, n3⟩, ?_, k1, by show n1 < _; omega⟩
  have := cut_at 1 e0 rfl
  rw [List.drop_zero, cut_at 2 e1 rfl, cut_at 3 e2 rfl, cut_at 4 e3 rfl, List.drop_of_length_le (by omega)] at this
  rw [this]
  rfl
theorem cs_act7 (h : DataW.trod enc Try.prog W 0 (fun _ => true) true fuel 35 cs = some x) (hb : ∀ n ∈ x.1.weights Try.prog 35, n ≤ 140737488351232) : ∃ a : Az, cs = a.cells ∧ ∃ P, AzOk W a P := by
  obtain ⟨xs, m, _, ex, hlen, hxl, each⟩ := DataW.trod_struct Try.underlying35 h
  have hx : xs.length = 7 := hxl
  have hl : cs.length = 7 := hlen.trans (by kernel_rfl)
  have hw : ∀ (j : Nat) (t : TypeId) (y : DataW H × List MemPlace), xs[j]? = some y → ([3, 3, 3, 9, 9, 9, 33] : List TypeId)[j]? = some t → ∀ n ∈ y.1.weights Try.prog t, n ≤ 140737488351232 := by
    intro j t y hy ht n hn
    have ed : x.1 = .agg (xs.map (·.1)) := congrArg Prod.fst ex
    refine hb n ?_
    rw [ed]
    simp only [DataW.weights, Try.underlying35]
    exact DataW.weights_mem_each (t := t) (d := y.1) (j := j) ht (by rw [List.getElem?_map, hy]; rfl) n hn
  have h0 : DataW.trod enc Try.prog W 0 (fun _ => true) true m 3 ((cs.drop 0).take 1) = some xs[0] := (each 0 _ rfl).trans (List.getElem?_eq_getElem (by omega))
  have h1 : DataW.trod enc Try.prog W 0 (fun _ => true) true m 3 ((cs.drop 1).take 1) = some xs[1] := (each 1 _ rfl).trans (List.getElem?_eq_getElem (by omega))
  have h2 : DataW.trod enc Try.prog W 0 (fun _ => true) true m 3 ((cs.drop 2).take 1) = some xs[2] := (each 2 _ rfl).trans (List.getElem?_eq_getElem (by omega))
  have h3 : DataW.trod enc Try.prog W 0 (fun _ => true) true m 9 ((cs.drop 3).take 1) = some xs[3] := (each 3 _ rfl).trans (List.getElem?_eq_getElem (by omega))
  have h4 : DataW.trod enc Try.prog W 0 (fun _ => true) true m 9 ((cs.drop 4).take 1) = some xs[4] := (each 4 _ rfl).trans (List.getElem?_eq_getElem (by omega))
  have h5 : DataW.trod enc Try.prog W 0 (fun _ => true) true m 9 ((cs.drop 5).take 1) = some xs[5] := (each 5 _ rfl).trans (List.getElem?_eq_getElem (by omega))
  have h6 : DataW.trod enc Try.prog W 0 (fun _ => true) true m 33 ((cs.drop 6).take 1) = some xs[6] := (each 6 _ rfl).trans (List.getElem?_eq_getElem (by omega))
  obtain ⟨n0, e0, k0, l0⟩ := cs_i64 Try.underlying3 h0
  obtain ⟨n1, e1, k1, l1⟩ := cs_i64 Try.underlying3 h1
  obtain ⟨n2, e2, k2, l2⟩ := cs_i64 Try.underlying3 h2
  obtain ⟨n3, e3, k3⟩ := cs_str Try.underlying9 h3
  obtain ⟨n4, e4, k4⟩ := cs_str Try.underlying9 h4
  obtain ⟨n5, e5, k5⟩ := cs_str Try.underlying9 h5
  obtain ⟨v6, P, e6, l6, z6, p6⟩ := list_funW KFl (fun f => -9223372036854775808 ≤ f.keep ∧ f.keep < 9223372036854775808) (fun f cs y h _ => cs_fall h) h6 (hw 6 _ _ (List.getElem?_eq_getElem (by omega)) rfl)
  obtain ⟨a6, c6, rfl⟩ := l6.form
  have z : P.length * 32 ≤ 140737488355328 := z6
  refine ⟨⟨n0, n1, n2, n3, n4, n5, a6, P.length, c6⟩, ?_, P, ⟨l6, ⟨by omega, p6⟩, z, k1, by show n1 < _; omega, k2, by show n2 < _; omega, k3, k4, k5⟩⟩
  have := cut_at 1 e0 rfl
  rw [List.drop_zero, cut_at 2 e1 rfl, cut_at 3 e2 rfl, cut_at 4 e3 rfl, cut_at 5 e4 rfl, cut_at 6 e5 rfl, cut_at 7 e6 rfl, List.drop_of_length_le (by omega)] at this
  rw [this]
  rfl
end
section
variable {H : Type} {enc : TypeId × Value → H} {W : World} {base : Nat} {v : Value} {d : DataW H} {p : List MemPlace}
theorem open_acts7 (hv : Value.okWide Try.prog W .any base 22 v) (h : DataW.Trod enc Try.prog W 0 (fun _ => true) true 22 v d p) (hb : ∀ n ∈ d.weights Try.prog 22, n ≤ 140737488351232) : ∃ L, LX KAz W v L ∧ L.length ≤ 4611686018427387904 ∧ ∀ a ∈ L, ∃ P, AzOk W a P := by
  obtain ⟨ao, len, cap, rfl⟩ := okWide_slice Try.underlying22 hv
  obtain ⟨fuel, hf⟩ := h
  obtain ⟨u, L, e, l1, z1, p1⟩ := list_funW KAz (fun a => ∃ P, AzOk W a P) (fun f cs y h hb => cs_act7 h hb) (x := (d, p)) (show DataW.trod enc Try.prog W 0 (fun _ => true) true fuel 22 [.slice ao len cap] = some (d, p) by simpa [Value.cells] using hf) hb
  obtain rfl := (List.cons.inj e).1
  have z : L.length * 96 ≤ 140737488355328 := z1
  exact ⟨L, l1, by omega, p1⟩
end
end Go.Proofs.Ythnfpdmhjennlaa
