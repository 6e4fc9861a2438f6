/- Bytes that lie in the midst of a block: read, cut, appended to. -/
import Derived.Test.YtjcfojedahgfpaaDoorFi
import Derived.Deep.MidRow
import Derived.Deep.AppendSrc
namespace Go.Proofs.YtjcfojedahgfpaaDoor
open Go.RowKit
open Go.Deep
/-- v is a slice of the program's own bytes l, wherever it lies in its block. -/
def OM (w : World) (v : Value) (l : List UInt8) : Prop :=
  (v = .slice none 0 0 ∧ l = []) ∨ ∃ g o cap, v = .slice (some ⟨g, o, none⟩) l.length cap ∧ l.length ≤ cap ∧ w.rangeAt g o (cellsL l) ∧ w.there g o cap ∧ g < w.heap.size
theorem OM.nil (w : World) : OM w (.slice none 0 0) [] := .inl ⟨rfl, rfl⟩
theorem OM.form {w : World} {v : Value} {l : List UInt8} (h : OM w v l) : ∃ ao cap, v = .slice ao l.length cap ∧ Hid (l.length ≤ cap) := by
  rcases h with ⟨rfl, rfl⟩ | ⟨g, o, cap, rfl, hc, _⟩
  · exact ⟨_, _, rfl, Nat.le_refl _⟩
  · exact ⟨_, _, rfl, hc⟩
theorem OM.kept {w w' : World} {v : Value} {l : List UInt8} (h : OM w v l) (hb : ∀ g, v.ownBlock = some g → w'.heap[g]? = w.heap[g]?) (hs : w.heap.size ≤ w'.heap.size) : OM w' v l := by
  rcases h with h | ⟨g, o, cap, rfl, hc, hr, ht, hg⟩
  · exact .inl h
  · have e := hb g rfl
    refine .inr ⟨g, o, cap, rfl, hc, fun j v hv => ?_, fun j hj => ?_, by omega⟩
    · rw [World.cell?_of_block (a := ⟨g, o + j, none⟩) e]
      exact hr j v hv
    · rw [World.cell?_of_block (a := ⟨g, o + j, none⟩) e, World.frozen?_of_block (a := ⟨g, o + j, none⟩) e]
      exact ht j hj
theorem OM.lt {w : World} {v : Value} {l : List UInt8} (h : OM w v l) : ∀ g, v.ownBlock = some g → g < w.heap.size := by
  intro g hg
  rcases h with ⟨rfl, _⟩ | ⟨g', o, cap, rfl, _, _, _, h⟩
  · cases hg
  · cases hg
    exact h
theorem OM.below {w w' : World} {v : Value} {l : List UInt8} (h : OM w v l) (hb : Below w.heap.size w w') : OM w' v l := h.kept (fun g hg => hb.block g (h.lt g hg)) hb.size
theorem OM.of_row {w : World} {g : Nat} {cur : Array Value} {l : List UInt8} {cap : Nat} (hg : w.heap[g]? = some (.cells cur 5 (0, 0))) (hl : l.length ≤ cap) (hc : cap ≤ cur.size) (ht : cur.toList.take l.length = cellsL l) : OM w (.slice (some ⟨g, 0, none⟩) l.length cap) l := by
  refine .inr ⟨g, 0, cap, rfl, hl, fun j v hv => ?_, fun j hj => ?_, lt_heap hg⟩
  · have hj : j < l.length := by
      have := (List.getElem?_eq_some_iff.1 hv).1
      rwa [cellsL_len] at this
    rw [cell_of_row w g _ cur _ _ hg, Nat.zero_add]
    rw [← ht, List.getElem?_take, if_pos hj] at hv
    simpa using hv
  · rw [cell_of_row w g _ cur _ _ hg, Nat.zero_add, Array.getElem?_eq_getElem (by omega)]
    exact ⟨rfl, frozen_of_row w g _ cur _ hg⟩
theorem OM.of_own {w : World} {v : Value} {l : List UInt8} (h : Own w v l) : OM w v l := by
  rcases h.2 with ⟨rfl, h0⟩ | ⟨g, cap, cur, rfl, hb, hg, hn, hm, hsz, ht⟩
  · exact .inl ⟨rfl, List.length_eq_zero_iff.1 h0⟩
  · exact OM.of_row hg hn (by omega) (by simpa using ht)
/-- The first bytes as a text. -/
theorem OM.conv {w : World} {ao : Option Addr} {n cap : Nat} {l : List UInt8} (h : OM w (.slice ao n cap) l) (k : Nat) (hk : k ≤ l.length) : (convert 63 9 (.slice ao k cap)).run Tryd.prog w = .ok (.string (txt (l.take k))) w := by
  rcases h with ⟨e, rfl⟩ | ⟨g, o, c, e, hc, hr, ht, hg⟩
  · cases e
    simp at hk
    subst hk
    exact conv_own (Own.nil w)
  · cases e
    have := run_convert_bytes_back (P := Tryd.prog) w 63 9 5 ⟨g, o, none⟩ cap (l.take k) Tryd.underlying63 Tryd.underlying5 Tryd.underlying9 (fun j hj => by
      rw [Addr.add_mid]
      rw [List.length_take] at hj
      refine hr j _ ?_
      rw [cellsL, List.getElem?_map, List.getElem?_eq_getElem (by omega)]
      simp)
    rwa [List.length_take, Nat.min_eq_left hk] at this
/-- What is left behind the first bytes. -/
theorem OM.cut {w : World} {g o n cap : Nat} {l : List UInt8} (h : OM w (.slice (some ⟨g, o, none⟩) n cap) l) (k : Nat) (hk : k ≤ l.length) : OM w (.slice (some ⟨g, o + k, none⟩) (n - k) (cap - k)) (l.drop k) ∧ (cap = k → OM w (.slice (some ⟨g, o, none⟩) 0 0) (l.drop k)) := by
  rcases h with ⟨e, rfl⟩ | ⟨g', o', c, e, hc, hr, ht, hg⟩
  · cases e
  · cases e
    refine ⟨.inr ⟨g, o + k, cap - k, by rw [List.length_drop], by rw [List.length_drop]; omega, fun j v hv => ?_, fun j hj => ?_, hg⟩, fun e => .inr ⟨g, o, 0, by rw [List.length_drop, show l.length - k = 0 by omega], by rw [List.length_drop]; omega, fun j v hv => ?_, fun j hj => by omega, hg⟩⟩
    · rw [Nat.add_assoc]
      refine hr (k + j) v ?_
      rw [cellsL, ← List.getElem?_drop, ← List.map_drop]
      exact hv
    · rw [Nat.add_assoc]
      exact ht (k + j) (by omega)
    · rw [List.drop_of_length_le (by omega)] at hv
      simp [cellsL] at hv
theorem cells_map (s : ByteArray) : Go.byteCells s = cellsL s.data.toList := by
  unfold Go.byteCells cellsL
  simp
theorem setCells_grown (b : Nat) : ∀ (vs : List Value) (o : Nat) (w : World), w.grownBy (w.setCells b o vs) (some b)
  | [], o, w => ⟨rfl, rfl, rfl, Nat.le_refl _, fun _ _ _ => rfl⟩
  | v :: r, o, w => by
    have h1 := setCell_grown w b o v
    have h2 := setCells_grown b r (o + 1) (w.setCell ⟨b, o, none⟩ v)
    rw [World.setCells]
    have hs := h1.size
    exact ⟨h2.os.trans h1.os, h2.tape.trans h1.tape, h2.output.trans h1.output, Nat.le_trans hs h2.size, fun k hk hne => (h2.block k (by omega) hne).trans (h1.block k hk hne)⟩
/-- Bytes of a text behind it. -/
theorem OM.app {w : World} {ty : TypeId} {v : Value} {l : List UInt8} (h : OM w v l) (s : ByteArray) (hsm : l.length + s.size ≤ 1000000) :
    ∃ v' w', (Builtin.append_ #[63, 9] ty #[v, .string s]).run Tryd.prog w = .ok v' w' ∧ OM w' v' (l ++ s.data.toList) ∧ Onto w w' v v' := by
  have hS : s.data.toList.length = s.size := by simp
  rcases h with ⟨rfl, rfl⟩ | ⟨g, o, cap, rfl, hc, hr, ht, hg⟩
  · obtain ⟨v', w', hr, ho, hon⟩ := run_app_str (ty := ty) (Own.nil w) s (by simpa using (by omega))
    exact ⟨v', w', hr, OM.of_own ho, hon⟩
  · obtain ⟨i0, hi, hz0, hz1, hz2⟩ := info_parts info5
    have hSr : Src Tryd.prog i0.size 9 (.string s) s.size (Go.byteCells s) w := by rw [hz1]; exact Src.ofString w Tryd.underlying9 s
    have hbl : (Go.byteCells s).length = s.size := by rw [cells_map, cellsL_len, hS]
    by_cases hroom : l.length + s.size ≤ cap
    · have hr2 := run_append_room_src (P := Tryd.prog) w 63 9 ty 5 i0 Tryd.underlying63 hi g o l.length cap (.string s) s.size (Go.byteCells s) hSr hroom
        (fun j hj => by rw [hz1, Nat.mul_one, Nat.add_assoc]; exact (ht (l.length + j) (by omega)).1)
        (fun j hj => by rw [hz1, Nat.mul_one, Nat.add_assoc]; exact (ht (l.length + j) (by omega)).2)
      rw [hz1, Nat.mul_one] at hr2
      have hth : w.there g (o + l.length) (Go.byteCells s).length := fun j hj => by rw [Nat.add_assoc]; exact ht (l.length + j) (by omega)
      refine ⟨_, _, hr2, .inr ⟨g, o, cap, by rw [List.length_append, hS], by rw [List.length_append, hS]; exact hroom, fun j v hv => ?_, World.there_setCells ht _ _ _, ?_⟩, ?_, .inl rfl⟩
      · rw [cellsL_app] at hv
        by_cases hj : j < l.length
        · rw [List.getElem?_append_left (by rw [cellsL_len]; exact hj)] at hv
          exact World.rangeAt_setCells_apart hr g (o + l.length) (Go.byteCells s) (.inr (.inl (by rw [cellsL_len]; omega))) j v hv
        · rw [List.getElem?_append_right (by rw [cellsL_len]; omega), cellsL_len, ← cells_map] at hv
          have := World.rangeAt_setCells_same w g (o + l.length) (Go.byteCells s) hth (j - l.length) v hv
          rwa [show o + l.length + (j - l.length) = o + j by omega] at this
      · exact Nat.lt_of_lt_of_le hg (setCells_grown g _ _ w).size
      · exact setCells_grown g _ _ w
    · have hr2 := run_append_grow_src (P := Tryd.prog) w 63 9 ty 5 i0 (.int .u8 0) Tryd.underlying63 hi hz0 (some ⟨g, o, none⟩) l.length cap (cellsL l)
          (run_firstCells_some w.drew i0.size l.length ⟨g, o, none⟩ l.length cap (cellsL l) (by rw [hz1, cellsL_len, Nat.mul_one]) (fun j u hu => by rw [Addr.add_mid]; exact hr j u hu))
          (.string s) s.size (Go.byteCells s) hSr (by omega) (by omega) (growslice_fits (by omega) (by rw [hz2]; omega))
      have hge := grownCap_ge w (l.length + s.size) cap 5
      generalize grownCap w (l.length + s.size) cap 5 = gc at *
      refine ⟨_, _, hr2, ?_, ?_, .inr ⟨w.heap.size, rfl, Nat.le_refl _⟩⟩
      · have hz := heap_alloc_last w.drew (.cells ((cellsL l ++ Go.byteCells s).toArray ++ Builtin.zeroCells (Value.int .u8 0).cells (gc - (l.length + s.size))) 5)
        have hzs : (Value.int IntKind.u8 0).cells.size = 1 := rfl
        have := OM.of_row (l := l ++ s.data.toList) (cap := gc) hz (by rw [List.length_append, hS]; exact hge) (by rw [Array.size_append, size_zeroCells, hzs, List.size_toArray, List.length_append, cellsL_len, hbl]; omega) (by
          rw [Array.toList_append, List.length_append, hS, cellsL_app, cells_map]
          rw [show ((cellsL l ++ cellsL s.data.toList).toArray).toList = cellsL l ++ cellsL s.data.toList from rfl]
          rw [List.take_append_of_le_length (by rw [List.length_append, cellsL_len, cellsL_len, hS]; exact Nat.le_refl _), List.take_of_length_le (by rw [List.length_append, cellsL_len, cellsL_len, hS]; exact Nat.le_refl _)])
        rwa [List.length_append, hS] at this
      · exact ⟨rfl, rfl, rfl, by simp, fun k hk _ => Below.heap_alloc _ _ _ hk⟩
end Go.Proofs.YtjcfojedahgfpaaDoor
