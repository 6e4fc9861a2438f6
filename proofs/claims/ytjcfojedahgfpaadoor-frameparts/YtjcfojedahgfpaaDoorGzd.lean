/- Lists of frames in memory. -/
import Derived.Test.YtjcfojedahgfpaaDoorFzc
import Derived.Deep.DeepAppendRoom
namespace Go.Proofs.YtjcfojedahgfpaaDoor
open Go.RowKit
open Go.Deep
abbrev Fm2 := List UInt8 × List UInt8
def fl2 : List Fm2 → List Value
  | [] => []
  | f :: r => .string (txt f.1) :: .string (txt f.2) :: fl2 r
theorem fl2_len (l : List Fm2) : (fl2 l).length = l.length * 2 := by
  induction l with
  | nil => rfl
  | cons f l ih => simp only [fl2, List.length_cons, ih]; omega
theorem fl2_app (a b : List Fm2) : fl2 (a ++ b) = fl2 a ++ fl2 b := by
  induction a with
  | nil => rfl
  | cons f a ih => simp [fl2, ih]
theorem fl2_cell (l : List Fm2) : ∀ v ∈ fl2 l, v.oneCell' = true := by
  induction l with
  | nil => simp [fl2]
  | cons f l ih =>
    intro v hv
    simp only [fl2, List.mem_cons] at hv
    rcases hv with rfl | rfl | hv
    · rfl
    · rfl
    · exact ih v hv
theorem fl2_at (l : List Fm2) : ∀ i (h : i < l.length), (fl2 l)[i * 2]? = some (.string (txt l[i].1)) ∧ (fl2 l)[i * 2 + 1]? = some (.string (txt l[i].2)) := by
  induction l with
  | nil => intro i h; simp at h
  | cons f l ih =>
    intro i h
    cases i with
    | zero => exact ⟨rfl, rfl⟩
    | succ i =>
      have := ih i (by simpa using h)
      rw [show (i + 1) * 2 = i * 2 + 1 + 1 by omega]
      simpa [fl2] using this
/-- Frames of the program's own. -/
def OF (w : World) (v : Value) (l : List Fm2) : Prop := w.ownsRow 0 24 2 v l.length (fl2 l)
section
variable {w W : World} {v : Value} {l : List Fm2}
theorem OF.of_block (h : OF w v l) (hb : ∀ g, v.ownBlock = some g → W.heap[g]? = w.heap[g]?) : OF W v l := by
  obtain ⟨h2, h3⟩ := h
  refine ⟨h2, ?_⟩
  rcases h3 with ⟨rfl, h0⟩ | ⟨g, cap, cur, rfl, h4, hg, h5⟩
  · exact .inl ⟨rfl, h0⟩
  · exact .inr ⟨g, cap, cur, rfl, h4, (hb g rfl).trans hg, h5⟩
theorem OF.lt (h : OF w v l) : ∀ g, v.ownBlock = some g → g < w.heap.size := by
  intro g hg
  rcases h.2 with ⟨rfl, h0⟩ | ⟨g', cap, cur, rfl, h4, hb, h5⟩
  · cases hg
  · cases hg
    exact lt_heap hb
theorem OF.below (h : OF w v l) (hb : Below w.heap.size w W) : OF W v l := h.of_block fun g hg => hb.block _ (h.lt g hg)
theorem OF.form (h : OF w v l) : ∃ ao c, v = .slice ao l.length c := by
  rcases h.2 with ⟨rfl, h0⟩ | ⟨g, cap, cur, rfl, _⟩
  · exact ⟨none, 0, by rw [h0]⟩
  · exact ⟨_, _, rfl⟩
theorem OF.base (h : OF w v l) (h0 : 0 < l.length) : ∃ g c, v = .slice (some ⟨g, 0, none⟩) l.length c := by
  rcases h.2 with ⟨rfl, h1⟩ | ⟨g, cap, cur, rfl, _⟩
  · omega
  · exact ⟨g, _, rfl⟩
theorem OF.cell {g c n : Nat} (h : OF w (.slice (some ⟨g, 0, none⟩) n c) l) (i : Nat) (hi : i < l.length) : w.cell? ⟨g, i * 2, none⟩ = some (.string (txt l[i].1)) ∧ w.cell? ⟨g, i * 2 + 1, none⟩ = some (.string (txt l[i].2)) := by
  have h1 := World.ownsRow.cells h (g := g) rfl (i * 2) _ (fl2_at l i hi).1
  have h2 := World.ownsRow.cells h (g := g) rfl (i * 2 + 1) _ (fl2_at l i hi).2
  rw [Addr.add_mid, Nat.zero_add] at h1 h2
  exact ⟨h1, h2⟩
theorem fr_parts : ∃ i z, Tryd.prog.info? 24 = some i ∧ i.zero = some z ∧ z.cells.size = 2 ∧ i.size = 2 ∧ i.bytes = 32 := by
  have h : (Tryd.prog.info? 24).map (fun i => (i.zero.map (·.cells.size), i.size, i.bytes)) = some (some 2, 2, 32) := by kernel_rfl
  cases hi : Tryd.prog.info? 24 with
  | none => rw [hi] at h; cases h
  | some i =>
    rw [hi] at h
    simp only [Option.map_some, Option.some.injEq, Prod.mk.injEq] at h
    obtain ⟨h1, h2, h3⟩ := h
    cases hz : i.zero with
    | none => rw [hz] at h1; cases h1
    | some z =>
      rw [hz] at h1
      exact ⟨i, z, rfl, hz, by simpa using h1, h2, h3⟩
theorem OF.app (h : OF w v l) {ty : TypeId} (ad : Addr) (f : Fm2) (hc0 : w.cell? (ad.add 0) = some (.string (txt f.1))) (hc1 : w.cell? (ad.add 1) = some (.string (txt f.2))) (hsm : l.length + 1 ≤ 4398046511104) :
    ∃ v' w', (Builtin.append_ #[40, 40] ty #[v, .slice (some ad) 1 1]).run Tryd.prog w = .ok v' w' ∧ OF w' v' (l ++ [f]) ∧ Onto w w' v v' := by
  obtain ⟨i0, z, hi, hz0, hzs, hz1, hz2⟩ := fr_parts
  obtain ⟨v', w', hr, h2, h3, _, h5⟩ := run_append_own_at (P := Tryd.prog) w 0 40 ty 24 i0 z 2 32 Tryd.underlying40 hi hz0 hz1 hz2 hzs (by decide) v l.length (fl2 l) h ad 1 1 (fl2 [f]) rfl
    (fun j u hu => by
      match j, hu with
      | 0, hu => rw [hc0]; exact hu
      | 1, hu => rw [hc1]; exact hu
      | j + 2, hu => simp [fl2] at hu)
    (fl2_cell _) (by unfold maxLen; omega) (by omega) (Nat.zero_le _)
  refine ⟨v', w', hr, ?_, ⟨h3, ?_⟩⟩
  · unfold OF
    rw [List.length_append, fl2_app]
    exact h2
  · rcases h5 with h5 | h5
    · exact .inl h5
    · exact .inr ⟨_, h5, Nat.le_refl _⟩
theorem wpList_appF {ops : Array Oper} {rest : List Oper} {o : Oper} {a : Act} {Q : Exit → Act → World → Prop} (hgd : o.guard = none) (sl x : Operand)
    (ho : o.op = .call { callee := .builtin .append, args := #[sl, x], argTypes := #[40, 40] })
    (v : Value) (l : List Fm2) (hs : a.eval sl = v) (hown : OF w v l) (ad : Addr) (f : Fm2) (hx : a.eval x = .slice (some ad) 1 1) (hc0 : w.cell? (ad.add 0) = some (.string (txt f.1))) (hc1 : w.cell? (ad.add 1) = some (.string (txt f.2))) (hsm : l.length + 1 ≤ 4398046511104)
    (h : ∀ v' w', OF w' v' (l ++ [f]) → Onto w w' v v' → wpList Tryd.prog ops Q rest (a.put o.dst v') w') :
    wpList Tryd.prog ops Q (o :: rest) a w := by
  refine wpList_plain hgd fun K hK => ?_
  obtain ⟨v', w', hr, h2, h3⟩ := hown.app (ty := o.type) ad f hc0 hc1 hsm
  unfold Oper.wp execOp
  simp only [ho, resolve, invoke, builtin, Sem.run_bind, Sem.run_pure, Result.andThen_ok, List.map_toArray, List.map_cons, List.map_nil, hs, hx, hr]
  exact hK _ _ (h v' w' h2 h3)
end
/-- Frames that come in. -/
def LF (w : World) (v : Value) (L : List Fm2) : Prop :=
  ∃ ao cap, v = .slice ao L.length cap ∧ L.length ≤ cap ∧ ∀ i (hi : i < L.length), ∃ g off, ao = some ⟨g, off, none⟩ ∧ g < w.heap.size ∧ w.rangeAt g (off + i * 2) (fr2 L[i].1 L[i].2).toList
/-- Those that may be frames. -/
def oks (l : List Fm2) : List Fm2 := l.filter fun f => decide (encE f.1 f.2 = 0)
theorem oks_app (l : List Fm2) (f : Fm2) : oks (l ++ [f]) = if encE f.1 f.2 = 0 then oks l ++ [f] else oks l := by
  unfold oks
  rw [List.filter_append]
  by_cases h : encE f.1 f.2 = 0 <;> simp [h]
theorem okF_of {f : Fm2} (h : encE f.1 f.2 = 0) : okF f := by
  unfold encE at h
  split at h
  · cases h
  · rename_i h1
    split at h
    · cases h
    · rename_i h2
      exact ⟨by simpa using h1, by omega⟩
theorem oks_ok (l : List Fm2) : ∀ f ∈ oks l, okF f := fun f hf => okF_of (by simpa using (List.mem_filter.1 hf).2)
end Go.Proofs.YtjcfojedahgfpaaDoor
