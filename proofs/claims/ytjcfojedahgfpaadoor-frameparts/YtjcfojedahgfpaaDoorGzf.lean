/- Frames and numbers that come in. -/
import Derived.Test.YtjcfojedahgfpaaDoorGze
import Derived.Test.YtjcfojedahgfpaaDoorFw
namespace Go.Proofs.YtjcfojedahgfpaaDoor
open Go.ChangeShapes Go.WideShapes Go.ChangeAt Go.RowKit Go.Joins Go.Deep
set_option linter.unusedVariables false
set_option maxRecDepth 100000
section
variable {H : Type} {enc : TypeId × Value → H} {W : World} {base fuel : Nat} {v : Value} {d : DataW H} {p : List MemPlace}
theorem add_at (g o j : Nat) : (⟨g, o, none⟩ : Addr).add j = ⟨g, o + j, none⟩ := by unfold Addr.add; split <;> simp_all
theorem txt_of (s : ByteArray) : txt s.data.toList = s := by
  apply ByteArray.ext
  simp [txt]
theorem frames_of {ao : Option Addr} {len cap : Nat} {x : DataW H × List MemPlace} (h : DataW.trod enc Tryd.prog W 0 (fun _ => true) true fuel 40 [.slice ao len cap] = some x) : ∃ L, LF W (.slice ao len cap) L ∧ (∀ f ∈ L, f.1.length ≤ maxLen ∧ f.2.length ≤ maxLen) ∧ (L.length = 0 ∨ ∃ a b, x.1 = .slice a b ∧ a.length = L.length) := by
  rcases open_slice Tryd.underlying40 h with ⟨hcs, _⟩ | ⟨a, l, c, m, n, D, Pl, hcs, _, hl, hm, hmm, rfl, hx⟩
  · simp at hcs
    obtain ⟨rfl, rfl, rfl⟩ := hcs
    exact ⟨[], ⟨none, 0, rfl, Nat.le_refl _, fun i hi => absurd hi (Nat.not_lt_zero _)⟩, (fun f hf => by cases hf), .inl rfl⟩
  · simp at hcs
    obtain ⟨rfl, rfl, rfl⟩ := hcs
    have each : ∀ i, i < len → ∃ q : Fm2, (q.1.length ≤ maxLen ∧ q.2.length ≤ maxLen) ∧ ∃ g off, some a = some (⟨g, off, none⟩ : Addr) ∧ g < W.heap.size ∧ W.rangeAt g (off + i * 2) (fr2 q.1 q.2).toList := by
      intro i hi
      obtain ⟨cs', h1, h2⟩ := hx i (by rw [hmm]; split <;> omega)
      rw [cellF8] at h1
      obtain ⟨_, hlen, hcell⟩ := World.cells?_some h1
      match cs', hlen, h1, h2, hcell with
      | [x0, x1], _, h1, h2, hcell =>
        obtain ⟨s, t, rfl, rfl, hy, zs, zt⟩ := trod_frame h2
        obtain ⟨g, off, spot⟩ := a
        have hspot : spot = none := by
          obtain ⟨cz, hz1, hz2⟩ := hx 0 (by rw [hmm]; split <;> omega)
          rw [cellF8] at hz1
          obtain ⟨_, hzlen, hzcell⟩ := World.cells?_some hz1
          have cz0 := hzcell 0 (by omega)
          have h0 : cz[0]? = some (cz[0]'(by omega)) := List.getElem?_eq_getElem (by omega)
          rw [h0] at cz0
          simpa [Addr.add] using World.cell?_spot cz0
        subst hspot
        have hr : W.rangeAt g (off + i * 2) (fr2 s.data.toList t.data.toList).toList := fun j u hu => by
          unfold fr2 at hu
          rw [txt_of, txt_of] at hu
          have hj : j < 2 := (List.getElem?_eq_some_iff.1 hu).1
          have := hcell j (by omega)
          rw [add_at, add_at] at this
          rw [this]
          exact hu
        have hg : g < W.heap.size := block_lt_of_cell (a := ⟨g, off + i * 2 + 0, none⟩) (hr 0 (.string (txt s.data.toList)) rfl)
        exact ⟨(s.data.toList, t.data.toList), ⟨by simpa using zs, by simpa using zt⟩, g, off, rfl, hg, hr⟩
    obtain ⟨F, hF⟩ := choose_lt each
    refine ⟨(List.range len).map F, ⟨some a, cap, by simp, by simpa using hl, fun i hi => ?_⟩, fun f hf => ?_, .inr ⟨_, _, rfl, by simp⟩⟩
    · have hi' : i < len := by simpa using hi
      have e : ((List.range len).map F)[i]'hi = F i := by simp
      rw [e]
      exact (hF i hi').2
    · obtain ⟨i, hi, rfl⟩ := List.mem_map.1 hf
      exact (hF i (List.mem_range.1 hi)).1
theorem ints_of {ao : Option Addr} {len cap : Nat} {x : DataW H × List MemPlace} (h : DataW.trod enc Tryd.prog W 0 (fun _ => true) true fuel 41 [.slice ao len cap] = some x) : ∃ C, LI W (.slice ao len cap) C ∧ (C.length = 0 ∨ ∃ a b, x.1 = .slice a b ∧ a.length = C.length) := by
  rcases open_slice Tryd.underlying41 h with ⟨hcs, _⟩ | ⟨a, l, c, m, n, D, Pl, hcs, _, hl, hm, hmm, rfl, hx⟩
  · simp at hcs
    obtain ⟨rfl, rfl, rfl⟩ := hcs
    exact ⟨[], ⟨none, 0, rfl, Nat.le_refl _, fun i hi => absurd hi (Nat.not_lt_zero _)⟩, .inl rfl⟩
  · simp at hcs
    obtain ⟨rfl, rfl, rfl⟩ := hcs
    have each : ∀ i, i < len → ∃ q : Int, ∃ g off, some a = some (⟨g, off, none⟩ : Addr) ∧ g < W.heap.size ∧ W.cell? ⟨g, off + i, none⟩ = some (.int .i64 q) := by
      intro i hi
      obtain ⟨cs', h1, h2⟩ := hx i (by rw [hmm]; split <;> omega)
      rw [cellI8] at h1
      obtain ⟨_, hlen, hcell⟩ := World.cells?_some h1
      match cs', hlen, h1, h2, hcell with
      | [x0], _, h1, h2, hcell =>
        obtain ⟨b, eb, hy, _⟩ := DataW.trod_int Tryd.underlying3 h2
        obtain rfl := (List.cons.inj eb).1
        obtain ⟨g, off, spot⟩ := a
        have hspot : spot = none := by
          obtain ⟨cz, hz1, hz2⟩ := hx 0 (by rw [hmm]; split <;> omega)
          rw [cellI8] at hz1
          obtain ⟨_, hzlen, hzcell⟩ := World.cells?_some hz1
          have cz0 := hzcell 0 (by omega)
          have h0 : cz[0]? = some (cz[0]'(by omega)) := List.getElem?_eq_getElem (by omega)
          rw [h0] at cz0
          simpa [Addr.add] using World.cell?_spot cz0
        subst hspot
        have c0 := hcell 0 (by omega)
        rw [add_at, add_at, Nat.mul_one, Nat.add_zero] at c0
        exact ⟨b, g, off, rfl, block_lt_of_cell (a := ⟨g, off + i, none⟩) c0, c0⟩
    obtain ⟨F, hF⟩ := choose_lt each
    refine ⟨(List.range len).map F, ⟨some a, cap, by simp, by simpa using hl, fun i hi => ?_⟩, .inr ⟨_, _, rfl, by simp⟩⟩
    have hi' : i < len := by simpa using hi
    have e : ((List.range len).map F)[i]'hi = F i := by simp
    rw [e]
    exact hF i hi'
/-- How long a slice that comes in may be. -/
theorem sized_len {ts : List TypeId} {ds : List (DataW H)} (h : (DataW.weightsEach Tryd.prog ts ds).all (· ≤ reachBytes) = true) {j : Nat} {t e : TypeId} {a b : List (DataW H)} (ht : ts[j]? = some t) (hd : ds[j]? = some (.slice a b)) (hu : Tryd.prog.underlying t = some (.slice e)) : a.length * Tryd.prog.bytesOf e ≤ 140737488351232 := by
  have := List.all_eq_true.1 h _ (DataW.weights_mem_each ht hd ((a.length + b.length) * Tryd.prog.bytesOf e) (by simp [DataW.weights, hu]))
  have h1 := of_decide_eq_true this
  simp only [reachBytes] at h1
  have h2 : a.length * Tryd.prog.bytesOf e ≤ (a.length + b.length) * Tryd.prog.bytesOf e := Nat.mul_le_mul_right _ (Nat.le_add_right _ _)
  omega
theorem bytesF : Tryd.prog.bytesOf 24 = 32 := by kernel_rfl
theorem bytesI : Tryd.prog.bytesOf 3 = 8 := by kernel_rfl
end
end Go.Proofs.YtjcfojedahgfpaaDoor
