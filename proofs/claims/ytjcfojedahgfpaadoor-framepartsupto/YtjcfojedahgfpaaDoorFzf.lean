/- Frames and numbers that come in, of a bulk that is bounded. -/
import Derived.Test.YtjcfojedahgfpaaDoorRows
import Derived.Test.YtjcfojedahgfpaaDoorFze
import Derived.Test.YtjcfojedahgfpaaDoorFw
namespace Go.Proofs.YtjcfojedahgfpaaDoor
open Go.ChangeShapes Go.WideShapes Go.ChangeAt Go.RowKit Go.Joins Go.Deep
set_option linter.unusedVariables false
set_option maxRecDepth 100000
section
variable {H : Type} {enc : TypeId × Value → H} {W : World} {base fuel : Nat} {v : Value} {d : DataW H} {p : List MemPlace}
theorem bulk_mem : ∀ (l : List (DataW H)) (d : DataW H), d ∈ l → Rows.uptoBulk d ≤ Rows.uptoBulkAll l
  | [], _, h => by cases h
  | e :: l, d, h => by
    rw [Rows.uptoBulkAll]
    rcases List.mem_cons.1 h with rfl | h
    · omega
    · have := bulk_mem l d h
      omega
theorem bulk_len : ∀ (l : List (DataW H)), (∀ d ∈ l, 1 ≤ Rows.uptoBulk d) → l.length ≤ Rows.uptoBulkAll l
  | [], _ => Nat.zero_le _
  | e :: l, h => by
    rw [Rows.uptoBulkAll, List.length_cons]
    have h1 := h e (List.mem_cons_self ..)
    have h2 := bulk_len l fun d hd => h d (List.mem_cons_of_mem _ hd)
    omega
theorem bulk_each (D : Nat → DataW H) (n : Nat) (h : ∀ i, i < n → 1 ≤ Rows.uptoBulk (D i)) {B : Nat} (hb : Rows.uptoBulkAll ((List.range n).map D) ≤ B) : n ≤ B ∧ ∀ i, i < n → Rows.uptoBulk (D i) ≤ B := by
  have h1 := bulk_len ((List.range n).map D) (fun d hd => by
    obtain ⟨i, hi, rfl⟩ := List.mem_map.1 hd
    exact h i (List.mem_range.1 hi))
  rw [List.length_map, List.length_range] at h1
  exact ⟨by omega, fun i hi => by
    have := bulk_mem ((List.range n).map D) (D i) (List.mem_map.2 ⟨i, List.mem_range.2 hi, rfl⟩)
    omega⟩
theorem add_at (g o j : Nat) : (⟨g, o, none⟩ : Addr).add j = ⟨g, o + j, none⟩ := by unfold Addr.add; split <;> simp_all
theorem txt_of (s : ByteArray) : txt s.data.toList = s := by
  apply ByteArray.ext
  simp [txt]
theorem frames_of {ao : Option Addr} {len cap : Nat} {x : DataW H × List MemPlace} (h : DataW.trod enc Tryd.prog W 0 (fun _ => true) true fuel 40 [.slice ao len cap] = some x) (hk : Rows.uptoBulk x.1 ≤ 1048576) : ∃ L, LF W (.slice ao len cap) L ∧ L.length ≤ 1048576 ∧ ∀ f ∈ L, f.1.length ≤ 1048576 ∧ f.2.length ≤ 1048576 := by
  rcases open_slice Tryd.underlying40 h with ⟨hcs, _⟩ | ⟨a, l, c, m, n, D, Pl, hcs, _, hl, hm, hmm, rfl, hx⟩
  · simp at hcs
    obtain ⟨rfl, rfl, rfl⟩ := hcs
    exact ⟨[], ⟨none, 0, rfl, Nat.le_refl _, fun i hi => absurd hi (Nat.not_lt_zero _)⟩, Nat.zero_le _, fun f hf => by cases hf⟩
  · simp at hcs
    obtain ⟨rfl, rfl, rfl⟩ := hcs
    have each : ∀ i, i < len → ∃ q : Fm2, Rows.uptoBulk (D i) = q.1.length + q.2.length + 3 ∧ ∃ g off, some a = some (⟨g, off, none⟩ : Addr) ∧ g < W.heap.size ∧ W.rangeAt g (off + i * 2) (fr2 q.1 q.2).toList := by
      intro i hi
      obtain ⟨cs', h1, h2⟩ := hx i (by rw [hmm]; split <;> omega)
      rw [cellF8] at h1
      obtain ⟨_, hlen, hcell⟩ := World.cells?_some h1
      match cs', hlen, h1, h2, hcell with
      | [x0, x1], _, h1, h2, hcell =>
        obtain ⟨s, t, rfl, rfl, hy, _, _⟩ := trod_frame h2
        obtain ⟨g, off, spot⟩ := a
        have hspot : spot = none := by
          obtain ⟨cz, hz1, hz2⟩ := hx 0 (by rw [hmm]; split <;> omega)
          rw [cellF8] at hz1
          obtain ⟨_, hzlen, hzcell⟩ := World.cells?_some hz1
          have cz0 := hzcell 0 (by omega)
          have h0 : cz[0]? = some (cz[0]'(by omega)) := List.getElem?_eq_getElem (by omega)
          rw [h0] at cz0
          simpa [Addr.add] using World.cell?_spot cz0
        subst hspot
        have hr : W.rangeAt g (off + i * 2) (fr2 s.data.toList t.data.toList).toList := fun j u hu => by
          unfold fr2 at hu
          rw [txt_of, txt_of] at hu
          have hj : j < 2 := (List.getElem?_eq_some_iff.1 hu).1
          have := hcell j (by omega)
          rw [add_at, add_at] at this
          rw [this]
          exact hu
        have hg : g < W.heap.size := block_lt_of_cell (a := ⟨g, off + i * 2 + 0, none⟩) (hr 0 (.string (txt s.data.toList)) rfl)
        refine ⟨(s.data.toList, t.data.toList), ?_, g, off, rfl, hg, hr⟩
        have hy' : D i = .agg [.lit (.string s.data.toList), .lit (.string t.data.toList)] := hy
        rw [hy']
        simp only [Rows.uptoBulk, Rows.uptoBulkAll]
        omega
    obtain ⟨F, hF⟩ := choose_lt each
    simp only [Rows.uptoBulk] at hk
    obtain ⟨b1, b2⟩ := bulk_each D len (fun i hi => by rw [(hF i hi).1]; omega) (B := 1048576) (by omega)
    refine ⟨(List.range len).map F, ⟨some a, cap, by simp, by simpa using hl, fun i hi => ?_⟩, by simpa using b1, fun f hf => ?_⟩
    · have hi' : i < len := by simpa using hi
      have e : ((List.range len).map F)[i]'hi = F i := by simp
      rw [e]
      exact (hF i hi').2
    · obtain ⟨i, hi, rfl⟩ := List.mem_map.1 hf
      have hi' := List.mem_range.1 hi
      have h3 := b2 i hi'
      rw [(hF i hi').1] at h3
      exact ⟨by omega, by omega⟩
theorem ints_of {ao : Option Addr} {len cap : Nat} {x : DataW H × List MemPlace} (h : DataW.trod enc Tryd.prog W 0 (fun _ => true) true fuel 41 [.slice ao len cap] = some x) (hk : Rows.uptoBulk x.1 ≤ 1048576) : ∃ C, LI W (.slice ao len cap) C ∧ C.length ≤ 1048576 := by
  rcases open_slice Tryd.underlying41 h with ⟨hcs, _⟩ | ⟨a, l, c, m, n, D, Pl, hcs, _, hl, hm, hmm, rfl, hx⟩
  · simp at hcs
    obtain ⟨rfl, rfl, rfl⟩ := hcs
    exact ⟨[], ⟨none, 0, rfl, Nat.le_refl _, fun i hi => absurd hi (Nat.not_lt_zero _)⟩, Nat.zero_le _⟩
  · simp at hcs
    obtain ⟨rfl, rfl, rfl⟩ := hcs
    have each : ∀ i, i < len → ∃ q : Int, Rows.uptoBulk (D i) = 1 ∧ ∃ g off, some a = some (⟨g, off, none⟩ : Addr) ∧ g < W.heap.size ∧ W.cell? ⟨g, off + i, none⟩ = some (.int .i64 q) := by
      intro i hi
      obtain ⟨cs', h1, h2⟩ := hx i (by rw [hmm]; split <;> omega)
      rw [cellI8] at h1
      obtain ⟨_, hlen, hcell⟩ := World.cells?_some h1
      match cs', hlen, h1, h2, hcell with
      | [x0], _, h1, h2, hcell =>
        obtain ⟨b, eb, hy, _⟩ := DataW.trod_int Tryd.underlying3 h2
        obtain rfl := (List.cons.inj eb).1
        obtain ⟨g, off, spot⟩ := a
        have hspot : spot = none := by
          obtain ⟨cz, hz1, hz2⟩ := hx 0 (by rw [hmm]; split <;> omega)
          rw [cellI8] at hz1
          obtain ⟨_, hzlen, hzcell⟩ := World.cells?_some hz1
          have cz0 := hzcell 0 (by omega)
          have h0 : cz[0]? = some (cz[0]'(by omega)) := List.getElem?_eq_getElem (by omega)
          rw [h0] at cz0
          simpa [Addr.add] using World.cell?_spot cz0
        subst hspot
        have c0 := hcell 0 (by omega)
        rw [add_at, add_at, Nat.mul_one, Nat.add_zero] at c0
        refine ⟨b, ?_, g, off, rfl, block_lt_of_cell (a := ⟨g, off + i, none⟩) c0, c0⟩
        rw [(Prod.mk.inj hy).1]
        simp only [Rows.uptoBulk]
    obtain ⟨F, hF⟩ := choose_lt each
    simp only [Rows.uptoBulk] at hk
    obtain ⟨b1, b2⟩ := bulk_each D len (fun i hi => by rw [(hF i hi).1]; exact Nat.le_refl _) (B := 1048576) (by omega)
    refine ⟨(List.range len).map F, ⟨some a, cap, by simp, by simpa using hl, fun i hi => ?_⟩, by simpa using b1⟩
    have hi' : i < len := by simpa using hi
    have e : ((List.range len).map F)[i]'hi = F i := by simp
    rw [e]
    exact (hF i hi').2
end
end Go.Proofs.YtjcfojedahgfpaaDoor
