/- The parts that come in. -/
import Derived.Test.YtjcfojedahgfpaaGreatDoorFza
import Derived.Test.YtjcfojedahgfpaaGreatDoorFv
namespace Go.Proofs.YtjcfojedahgfpaaGreatDoor
open Go.ChangeShapes Go.WideShapes Go.ChangeAt Go.RowKit Go.Joins Go.Deep
set_option linter.unusedVariables false
set_option maxRecDepth 100000
theorem cellPt : Tryz.prog.cellsOf 30 = 3 := by kernel_rfl
theorem cellSt : Tryz.prog.cellsOf 9 = 1 := by kernel_rfl
theorem cellNt : Tryz.prog.cellsOf 3 = 1 := by kernel_rfl
theorem cellBt : Tryz.prog.cellsOf 4 = 1 := by kernel_rfl
section
variable {H : Type} {enc : TypeId × Value → H} {W : World} {base fuel : Nat} {v : Value} {d : DataW H} {p : List MemPlace}
theorem trod_part {sp : Nat → Bool} {held : Bool} {b : Nat} {cs : List Value} {y : DataW H × List MemPlace} (h : DataW.trod enc Tryz.prog W b sp held fuel 30 cs = some y) : ∃ (t : ByteArray) (a : Int) (c : Bool), cs = (pc3 t a c).toList ∧ t.size ≤ maxLen := by
  obtain ⟨xs, m, _, _, hlen, hxl, each⟩ := DataW.trod_struct Tryz.underlying30 h
  rw [cellPt] at hlen
  have hxl' : xs.length = 3 := hxl
  match cs, hlen with
  | [x0, x1, x2], _ =>
    have h0 : DataW.trod enc Tryz.prog W b sp held m 9 ((([x0, x1, x2] : List Value).drop 0).take (Tryz.prog.cellsOf 9)) = xs[0]? := each 0 _ rfl
    have h1 : DataW.trod enc Tryz.prog W b sp held m 3 ((([x0, x1, x2] : List Value).drop 1).take (Tryz.prog.cellsOf 3)) = xs[1]? := each 1 _ rfl
    have h2 : DataW.trod enc Tryz.prog W b sp held m 4 ((([x0, x1, x2] : List Value).drop 2).take (Tryz.prog.cellsOf 4)) = xs[2]? := each 2 _ rfl
    rw [cellSt, List.getElem?_eq_getElem (by omega)] at h0
    rw [cellNt, List.getElem?_eq_getElem (by omega)] at h1
    rw [cellBt, List.getElem?_eq_getElem (by omega)] at h2
    simp only [List.drop_succ_cons, List.drop_zero, List.take_succ_cons, List.take_zero] at h0 h1 h2
    obtain ⟨t, et, _, zt⟩ := DataW.trod_string Tryz.underlying9 h0
    obtain ⟨a, ea, _⟩ := DataW.trod_int Tryz.underlying3 h1
    obtain ⟨c, ec, _⟩ := DataW.trod_bool Tryz.underlying4 h2
    obtain rfl := (List.cons.inj et).1
    obtain rfl := (List.cons.inj ea).1
    obtain rfl := (List.cons.inj ec).1
    exact ⟨t, a, c, rfl, zt⟩
theorem add_at (g o j : Nat) : (⟨g, o, none⟩ : Addr).add j = ⟨g, o + j, none⟩ := by unfold Addr.add; split <;> simp_all
theorem parts_of {ao : Option Addr} {len cap : Nat} {x : DataW H × List MemPlace} (h : DataW.trod enc Tryz.prog W 0 (fun _ => true) true fuel 23 [.slice ao len cap] = some x) : ∃ L, LP W (.slice ao len cap) L := by
  rcases open_slice Tryz.underlying23 h with ⟨hcs, _⟩ | ⟨a, l, c, m, n, D, Pl, hcs, _, hl, hm, hmm, rfl, hx⟩
  · simp at hcs
    obtain ⟨rfl, rfl, rfl⟩ := hcs
    exact ⟨[], none, 0, rfl, ⟨Nat.le_refl _, Nat.zero_le _⟩, fun i hi => absurd hi (Nat.not_lt_zero _)⟩
  · simp at hcs
    obtain ⟨rfl, rfl, rfl⟩ := hcs
    have each : ∀ i, i < len → ∃ q : ByteArray × Int × Bool, q.1.size ≤ maxLen ∧ ∃ g off, some a = some (⟨g, off, none⟩ : Addr) ∧ g < W.heap.size ∧ W.rangeAt g (off + i * 3) (pc3 q.1 q.2.1 q.2.2).toList := by
      intro i hi
      obtain ⟨cs', h1, h2⟩ := hx i (by rw [hmm]; split <;> omega)
      rw [cellPt] at h1
      obtain ⟨_, hlen, hcell⟩ := World.cells?_some h1
      obtain ⟨t, b, c, rfl, zt⟩ := trod_part h2
      obtain ⟨g, off, spot⟩ := a
      have hspot : spot = none := by
        obtain ⟨cz, hz1, hz2⟩ := hx 0 (by rw [hmm]; split <;> omega)
        rw [cellPt] at hz1
        obtain ⟨_, hzlen, hzcell⟩ := World.cells?_some hz1
        have cz0 := hzcell 0 (by omega)
        have h0 : cz[0]? = some (cz[0]'(by omega)) := List.getElem?_eq_getElem (by omega)
        rw [h0] at cz0
        simpa [Addr.add] using World.cell?_spot cz0
      subst hspot
      have hr : W.rangeAt g (off + i * 3) (pc3 t b c).toList := fun j u hu => by
        have hj : j < 3 := by
          have := (List.getElem?_eq_some_iff.1 hu).1
          rwa [show (pc3 t b c).toList.length = 3 from rfl] at this
        have := hcell j (by omega)
        rw [add_at, add_at, hu] at this
        exact this
      have hg : g < W.heap.size := block_lt_of_cell (a := ⟨g, off + i * 3 + 0, none⟩) (hr 0 (.string t) rfl)
      exact ⟨(t, b, c), zt, g, off, rfl, hg, hr⟩
    obtain ⟨F, hF⟩ := choose_lt each
    refine ⟨(List.range len).map F, some a, cap, by simp, ⟨by simpa using hl, by unfold maxLen at hm; omega⟩, fun i hi => ?_⟩
    have hi' : i < len := by simpa using hi
    have e : ((List.range len).map F)[i]'hi = F i := by simp
    rw [e]
    exact hF i hi'
/-- Parts that come in. -/
theorem open_parts (hv : Value.okWide Tryz.prog W .any base 23 v) (h : DataW.Trod enc Tryz.prog W 0 (fun _ => true) true 23 v d p) : ∃ L, LP W v L := by
  obtain ⟨ao, len, cap, rfl⟩ := okWide_slice Tryz.underlying23 hv
  obtain ⟨fuel, hf⟩ := h
  exact parts_of (x := (d, p)) (by simpa [Value.cells] using hf)
end
end Go.Proofs.YtjcfojedahgfpaaGreatDoor
