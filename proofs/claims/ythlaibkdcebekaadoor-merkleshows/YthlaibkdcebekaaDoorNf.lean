/- What tell holds: the teller's cells, the bits and ids that were told; an append of a bit. -/
import Derived.Test.YthlaibkdcebekaaDoorNga
import Derived.Test.YthlaibkdcebekaaDoorMr
namespace Go.Proofs.YthlaibkdcebekaaDoor
open Go.RowKit
open Go.Deep
/-- Bits of the program's own. -/
def OB (W : World) (v : Value) (bs : List Bool) : Prop := W.ownsRow 0 4 1 v bs.length (bs.map Value.bool)
section
variable {W W' : World} {v v' : Value} {bs : List Bool}
theorem OB.nil (W : World) : OB W (.slice none 0 0) [] := World.ownsRow_nil _ _ _ _
theorem OB.of_block (h : OB W v bs) (hb : ∀ g, v.ownBlock = some g → W'.heap[g]? = W.heap[g]?) : OB W' v bs := row_blockG h hb
theorem OB.lt (h : OB W v bs) : ∀ g, v.ownBlock = some g → g < W.heap.size := fun g hg => (World.ownsRow.lt h g hg).2
theorem OB.below (h : OB W v bs) (b : Below W.heap.size W W') : OB W' v bs := h.of_block fun g hg => b.block _ (h.lt g hg)
theorem OB.form (h : OB W v bs) : ∃ ao c, v = .slice ao bs.length c := by
  rcases h.2 with ⟨rfl, h0⟩ | ⟨g, cap, cur, rfl, _⟩
  · exact ⟨none, 0, by rw [h0]⟩
  · exact ⟨_, _, rfl⟩
theorem OB.read (h : OB W v bs) : LB W v bs := by
  rcases h.2 with ⟨rfl, h0⟩ | ⟨g, cap, cur, rfl, _, hg, hn, _⟩
  · exact ⟨none, 0, by rw [h0], by omega, fun i hi => by omega⟩
  · refine ⟨_, cap, rfl, hn, fun i hi => ⟨g, 0, rfl, lt_heap hg, ?_⟩⟩
    have := World.ownsRow.cells h (g := g) rfl i (.bool (bs.getD i false)) (by simp [List.getD_eq_getElem?_getD, hi])
    have hadd : (⟨g, 0, none⟩ : Addr).add i = ⟨g, 0 + i, none⟩ := by unfold Addr.add; split <;> simp_all
    rw [hadd] at this
    exact this
theorem OB.app (h : OB W v bs) {ty : TypeId} (ad : Addr) (b : Bool) (hc1 : W.cell? ad = some (.bool b)) (hn : bs.length ≤ 1000000) :
    ∃ v' W', (Builtin.append_ #[23, 23] ty #[v, .slice (some ad) 1 1]).run Tryd.prog W = .ok v' W' ∧ OB W' v' (bs ++ [b]) ∧ Onto W W' v v' := by
  obtain ⟨i0, hi, hz, hs, hby⟩ := bool_parts
  obtain ⟨v', w', hr, h2, h3, _, h5⟩ := run_append_own_at (P := Tryd.prog) W 0 23 ty 4 i0 (.bool false) 1 1 Tryd.underlying23 hi hz hs hby rfl (by decide) v bs.length (bs.map Value.bool) h ad 1 1 [.bool b] rfl
    (fun k u hu => by
      rcases k with _ | k
      · cases hu
        rw [show ad.add 0 = ad by unfold Addr.add; split <;> simp_all]
        exact hc1
      · simp at hu)
    (fun u hu => by simp at hu; rw [hu]; rfl) (by unfold maxLen; omega) (by omega) (Nat.zero_le _)
  refine ⟨v', w', hr, ?_, ⟨h3, ?_⟩⟩
  · unfold OB
    rw [List.length_append, List.map_append]
    exact h2
  · rcases h5 with h5 | h5
    · exact .inl h5
    · exact .inr ⟨_, h5, Nat.le_refl _⟩
end
section
variable {W : World} {ops : Array Oper} {rest : List Oper} {o : Oper} {a : Act} {Q : Exit → Act → World → Prop} {v : Value} {bs : List Bool}
theorem OB.wpApp (hgd : o.guard = none) (s y : Operand)
    (ho : o.op = .call { callee := .builtin .append, args := #[s, y], argTypes := #[23, 23] })
    (hs : a.eval s = v) (j : OB W v bs) (ad : Addr) (hy : a.eval y = .slice (some ad) 1 1) (b : Bool) (hc1 : W.cell? ad = some (.bool b)) (hn : bs.length ≤ 1000000)
    (h : ∀ v' W', OB W' v' (bs ++ [b]) → Onto W W' v v' → wpList Tryd.prog ops Q rest (a.put o.dst v') W') :
    wpList Tryd.prog ops Q (o :: rest) a W := by
  refine wpList_plain hgd fun K0 hK => ?_
  obtain ⟨v', w', hr, h2, h3⟩ := OB.app (ty := o.type) j ad b hc1 hn
  unfold Oper.wp execOp
  simp only [ho, resolve, invoke, builtin, Sem.run_bind, Sem.run_pure, Result.andThen_ok, List.map_toArray, List.map_cons, List.map_nil, hs, hy, hr]
  exact hK _ _ (h v' w' h2 h3)
end
/-- The cells of a teller. -/
def tc (v0 v1 : Value) (n : Nat) (vb vi : Value) (i : Nat) : Value := if i = 0 then v0 else if i = 1 then v1 else if i = 2 then .int .i64 (n : Int) else if i = 3 then vb else vi
/-- A teller at block gt, all of it made behind B; what was told. -/
structure Ts (B W : World) (gt : Nat) (v0 v1 : Value) (n : Nat) (vb vi : Value) (bs : List Bool) (is : List (List UInt8)) : Prop where
  bel : Below B.heap.size B W
  tfar : B.heap.size ≤ gt
  row : W.rowIs gt 59 5 (tc v0 v1 n vb vi)
  bits : OB W vb bs
  bfar : ∀ g, vb.ownBlock = some g → B.heap.size ≤ g
  ids : OH 39 W vi is
  ifar : ∀ g, vi.ownBlock = some g → B.heap.size ≤ g
section
variable {B W W' : World} {gt n : Nat} {v0 v1 vb vi v' : Value} {bs bs' : List Bool} {is is' : List (List UInt8)}
/-- Rows of different types lie in different blocks. -/
theorem Ts.tb (j : Ts B W gt v0 v1 n vb vi bs is) : vb.ownBlock ≠ some gt := fun e => by
  rcases j.bits.2 with ⟨rfl, _⟩ | ⟨g1, cap, cur, rfl, _, hg, _⟩
  · cases e
  · cases e
    obtain ⟨c, hc, _⟩ := j.row
    rw [hg] at hc
    injection hc with hc
    injection hc with _ e2
    exact absurd e2 (by decide)
theorem Ts.ti (j : Ts B W gt v0 v1 n vb vi bs is) : vi.ownBlock ≠ some gt := fun e => by
  rcases j.ids.2.2 with ⟨rfl, _⟩ | ⟨g1, cap, cur, rfl, _, hg, _⟩
  · cases e
  · cases e
    obtain ⟨c, hc, _⟩ := j.row
    rw [hg] at hc
    injection hc with hc
    injection hc with _ e2
    exact absurd e2 (by decide)
theorem Ts.bi (j : Ts B W gt v0 v1 n vb vi bs is) : ∀ g, vb.ownBlock = some g → vi.ownBlock ≠ some g := fun g h1 h2 => by
  rcases j.bits.2 with ⟨rfl, _⟩ | ⟨g1, cap, cur, rfl, _, hg, _⟩
  · cases h1
  · rcases j.ids.2.2 with ⟨rfl, _⟩ | ⟨g2, cap2, cur2, rfl, _, hg2, _⟩
    · cases h2
    · cases h1
      cases h2
      rw [hg] at hg2
      injection hg2 with hg2
      injection hg2 with _ e2
      exact absurd e2 (by decide)
theorem Ts.next (j : Ts B W gt v0 v1 n vb vi bs is) (h : Below W.heap.size W W') : Ts B W' gt v0 v1 n vb vi bs is :=
  ⟨below_next j.bel h, j.tfar, World.rowIs.of_block j.row (h.block _ (World.rowIs.lt j.row)), j.bits.below h, j.bfar, j.ids.below h, j.ifar⟩
/-- A bit more: the append, then the store of its list. -/
theorem Ts.bit (j : Ts B W gt v0 v1 n vb vi bs is) (o : OB W' v' bs') (h : Onto W W' vb v') : Ts B (W'.setCell ⟨gt, 3, none⟩ v') gt v0 v1 n v' vi bs' is := by
  have hgt : W'.heap[gt]? = W.heap[gt]? := h.grown.block _ (World.rowIs.lt j.row) (fun e => j.tb e.symm)
  have hr : W'.rowIs gt 59 5 (tc v0 v1 n vb vi) := World.rowIs.of_block j.row hgt
  have hne : ∀ g, v'.ownBlock = some g → g ≠ gt := fun g hg e => by
    subst e
    rcases o.2 with ⟨rfl, _⟩ | ⟨g1, cap, cur, rfl, _, hg2, _⟩
    · cases hg
    · cases hg
      obtain ⟨c, hc, _⟩ := hr
      rw [hg2] at hc
      injection hc with hc
      injection hc with _ e2
      exact absurd e2 (by decide)
  refine ⟨(j.bel.trans (h.below j.bel.size j.bfar)).setCell j.tfar _, j.tfar, (World.rowIs.set hr 3 v').congr (fun i hi => ?_), o.of_block (fun g hg => Below.heap_setCell _ _ _ _ (hne g hg)), h.far j.bel.size j.bfar, (j.ids.of_block fun g hg => h.grown.block g (j.ids.lt g hg) (fun e => j.bi g e.symm hg)).of_block (fun g hg => Below.heap_setCell _ _ _ _ (fun e => j.ti (hg.trans (congrArg some e)))), j.ifar⟩
  unfold tc
  by_cases h3 : i = 3
  · subst h3
    simp
  · have : i = 0 ∨ i = 1 ∨ i = 2 ∨ i = 4 := by omega
    rcases this with rfl | rfl | rfl | rfl <;> simp
/-- An id more. -/
theorem Ts.idm (j : Ts B W gt v0 v1 n vb vi bs is) (o : OH 39 W' v' is') (h : Onto W W' vi v') : Ts B (W'.setCell ⟨gt, 4, none⟩ v') gt v0 v1 n vb v' bs is' := by
  have hgt : W'.heap[gt]? = W.heap[gt]? := h.grown.block _ (World.rowIs.lt j.row) (fun e => j.ti e.symm)
  have hr : W'.rowIs gt 59 5 (tc v0 v1 n vb vi) := World.rowIs.of_block j.row hgt
  have hne : ∀ g, v'.ownBlock = some g → g ≠ gt := fun g hg e => by
    subst e
    rcases o.2.2 with ⟨rfl, _⟩ | ⟨g1, cap, cur, rfl, _, hg2, _⟩
    · cases hg
    · cases hg
      obtain ⟨c, hc, _⟩ := hr
      rw [hg2] at hc
      injection hc with hc
      injection hc with _ e2
      exact absurd e2 (by decide)
  refine ⟨(j.bel.trans (h.below j.bel.size j.ifar)).setCell j.tfar _, j.tfar, (World.rowIs.set hr 4 v').congr (fun i hi => ?_), (j.bits.of_block fun g hg => h.grown.block g (j.bits.lt g hg) (fun e => j.bi g hg e.symm)).of_block (fun g hg => Below.heap_setCell _ _ _ _ (fun e => j.tb (hg.trans (congrArg some e)))), j.bfar, o.of_block (fun g hg => Below.heap_setCell _ _ _ _ (hne g hg)), h.far j.bel.size j.ifar⟩
  unfold tc
  by_cases h4 : i = 4
  · subst h4
    simp
  · have : i = 0 ∨ i = 1 ∨ i = 2 ∨ i = 3 := by omega
    rcases this with rfl | rfl | rfl | rfl <;> simp
end
end Go.Proofs.YthlaibkdcebekaaDoor
