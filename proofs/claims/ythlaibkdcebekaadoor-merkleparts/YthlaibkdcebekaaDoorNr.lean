/- What a reader of a tree in parts holds; what a call of it leaves. -/
import Derived.Test.YthlaibkdcebekaaDoorNq
namespace Go.Proofs.YthlaibkdcebekaaDoor
open Go.RowKit
open Go.Deep
theorem int_info : (Tryd.prog.info? 3).map (fun i => (i.zero, i.size, i.bytes)) = some (some (.int .i64 0), 1, 8) := by kernel_rfl
theorem int_parts : ∃ i, Tryd.prog.info? 3 = some i ∧ i.zero = some (.int .i64 0) ∧ i.size = 1 ∧ i.bytes = 8 := by
  have h := int_info
  cases hi : Tryd.prog.info? 3 with
  | none => rw [hi] at h; cases h
  | some i =>
    rw [hi] at h
    simp only [Option.map_some, Option.some.injEq, Prod.mk.injEq] at h
    exact ⟨i, rfl, h⟩
/-- A place, as a value. -/
def iv (n : Nat) : Value := .int .i64 (n : Int)
/-- Places of the program's own. -/
def OI (W : World) (v : Value) (ns : List Nat) : Prop := W.ownsRow 0 3 1 v ns.length (ns.map iv)
section
variable {W W' : World} {v v' : Value} {ns : List Nat}
theorem OI.nil (W : World) : OI W (.slice none 0 0) [] := World.ownsRow_nil _ _ _ _
theorem OI.of_block (h : OI W v ns) (hb : ∀ g, v.ownBlock = some g → W'.heap[g]? = W.heap[g]?) : OI W' v ns := row_blockG h hb
theorem OI.lt (h : OI W v ns) : ∀ g, v.ownBlock = some g → g < W.heap.size := fun g hg => (World.ownsRow.lt h g hg).2
theorem OI.below (h : OI W v ns) (b : Below W.heap.size W W') : OI W' v ns := h.of_block fun g hg => b.block _ (h.lt g hg)
theorem OI.form (h : OI W v ns) : ∃ ao c, v = .slice ao ns.length c := by
  rcases h.2 with ⟨rfl, h0⟩ | ⟨g, cap, cur, rfl, _⟩
  · exact ⟨none, 0, by rw [h0]⟩
  · exact ⟨_, _, rfl⟩
theorem OI.base (h : OI W v ns) (h0 : 0 < ns.length) : ∃ g c, v = .slice (some ⟨g, 0, none⟩) ns.length c := by
  rcases h.2 with ⟨rfl, h1⟩ | ⟨g, cap, cur, rfl, _⟩
  · omega
  · exact ⟨g, _, rfl⟩
theorem OI.cell {g c n : Nat} (h : OI W (.slice (some ⟨g, 0, none⟩) n c) ns) (i : Nat) (hi : i < ns.length) : W.cell? ⟨g, i, none⟩ = some (.int .i64 ((ns.getD i 0 : Nat) : Int)) := by
  have := World.ownsRow.cells h (g := g) rfl i (iv (ns.getD i 0)) (by simp [List.getD_eq_getElem?_getD, hi])
  have hadd : (⟨g, 0, none⟩ : Addr).add i = ⟨g, i, none⟩ := by unfold Addr.add; split <;> simp_all
  rw [hadd] at this
  exact this
theorem OI.app (h : OI W v ns) {ty : TypeId} (ad : Addr) (b : Nat) (hc1 : W.cell? ad = some (.int .i64 (b : Int))) (hn : ns.length ≤ 1000000) :
    ∃ v' W', (Builtin.append_ #[40, 40] ty #[v, .slice (some ad) 1 1]).run Tryd.prog W = .ok v' W' ∧ OI W' v' (ns ++ [b]) ∧ Onto W W' v v' := by
  obtain ⟨i0, hi, hz, hs, hby⟩ := int_parts
  obtain ⟨v', w', hr, h2, h3, _, h5⟩ := run_append_own_at (P := Tryd.prog) W 0 40 ty 3 i0 (.int .i64 0) 1 8 Tryd.underlying40 hi hz hs hby rfl (by decide) v ns.length (ns.map iv) h ad 1 1 [iv b] rfl
    (fun k u hu => by
      rcases k with _ | k
      · cases hu
        rw [show ad.add 0 = ad by unfold Addr.add; split <;> simp_all]
        exact hc1
      · simp at hu)
    (fun u hu => by simp at hu; rw [hu]; rfl) (by unfold maxLen; omega) (by omega) (Nat.zero_le _)
  refine ⟨v', w', hr, ?_, ⟨h3, ?_⟩⟩
  · unfold OI
    rw [List.length_append, List.map_append]
    exact h2
  · rcases h5 with h5 | h5
    · exact .inl h5
    · exact .inr ⟨_, h5, Nat.le_refl _⟩
end
section
variable {W : World} {ops : Array Oper} {rest : List Oper} {o : Oper} {a : Act} {Q : Exit → Act → World → Prop} {v : Value} {ns : List Nat}
theorem OI.wpApp (hgd : o.guard = none) (s y : Operand)
    (ho : o.op = .call { callee := .builtin .append, args := #[s, y], argTypes := #[40, 40] })
    (hs : a.eval s = v) (j : OI W v ns) (ad : Addr) (hy : a.eval y = .slice (some ad) 1 1) (b : Nat) (hc1 : W.cell? ad = some (.int .i64 (b : Int))) (hn : ns.length ≤ 1000000)
    (h : ∀ v' W', OI W' v' (ns ++ [b]) → Onto W W' v v' → wpList Tryd.prog ops Q rest (a.put o.dst v') W') :
    wpList Tryd.prog ops Q (o :: rest) a W := by
  refine wpList_plain hgd fun K0 hK => ?_
  obtain ⟨v', w', hr, h2, h3⟩ := OI.app (ty := o.type) j ad b hc1 hn
  unfold Oper.wp execOp
  simp only [ho, resolve, invoke, builtin, Sem.run_bind, Sem.run_pure, Result.andThen_ok, List.map_toArray, List.map_cons, List.map_nil, hs, hy, hr]
  exact hK _ _ (h v' w' h2 h3)
end
/-- What is left of marks behind the first. -/
theorem LB.tail {w : World} {g off n c : Nat} {b : Bool} {bs : List Bool} (h : LB w (.slice (some ⟨g, off, none⟩) n c) (b :: bs)) : LB w (.slice (some ⟨g, off + 1, none⟩) bs.length (c - 1)) bs := by
  obtain ⟨ao, cap, e, h1, h2⟩ := h
  cases e
  simp at h1
  refine ⟨_, _, rfl, by omega, fun i hi => ?_⟩
  obtain ⟨g', off', e', hg, hc⟩ := h2 (i + 1) (by simpa using hi)
  cases e'
  refine ⟨g, off + 1, rfl, hg, ?_⟩
  rw [show off + 1 + i = off + (i + 1) by omega, hc]
  simp
/-- What is left of ids behind the first. -/
theorem LH.tail {w : World} {g off n c : Nat} {x : List UInt8} {L : List (List UInt8)} (h : LH w (.slice (some ⟨g, off, none⟩) n c) (x :: L)) : LH w (.slice (some ⟨g, off + 32, none⟩) L.length (c - 1)) L := by
  obtain ⟨h0, ao, cap, e, h1, h2⟩ := h
  cases e
  simp at h1
  refine ⟨h0.tail, _, _, rfl, by omega, fun i hi => ?_⟩
  obtain ⟨g', off', e', hg, hc⟩ := h2 (i + 1) (by simpa using hi)
  cases e'
  refine ⟨g, off + 32, rfl, hg, ?_⟩
  rw [show off + 32 + i * 32 = off + (i + 1) * 32 by omega, show ia L i = ia (x :: L) (i + 1) by simp [ia]]
  exact hc
/-- What a call leaves that may write to the block gt and append to two lists. -/
structure On3 (gt : Nat) (W W' : World) (a b a' b' : Value) : Prop where
  os : W'.os = W.os
  tape : W'.tape = W.tape
  output : W'.output = W.output
  size : W.heap.size ≤ W'.heap.size
  block : ∀ k, k < W.heap.size → k ≠ gt → a.ownBlock ≠ some k → b.ownBlock ≠ some k → W'.heap[k]? = W.heap[k]?
  na : Nw2 W a a'
  nb : Nw2 W b b'
theorem Nw2.not {W : World} {a a' : Value} (h : Nw2 W a a') {k : Nat} (hk : k < W.heap.size) (ha : a.ownBlock ≠ some k) : a'.ownBlock ≠ some k := fun e => by
  rcases h with h1 | ⟨g, h1, hg⟩
  · exact ha (h1.symm.trans e)
  · rw [h1] at e
    injection e with e
    omega
section
variable {gt : Nat} {W W1 W2 : World} {a b a1 b1 a2 b2 v : Value}
theorem On3.refl (gt : Nat) (W : World) (a b : Value) : On3 gt W W a b a b := ⟨rfl, rfl, rfl, Nat.le_refl _, fun _ _ _ _ _ => rfl, .inl rfl, .inl rfl⟩
theorem On3.trans (h : On3 gt W W1 a b a1 b1) (k : On3 gt W1 W2 a1 b1 a2 b2) : On3 gt W W2 a b a2 b2 :=
  ⟨k.os.trans h.os, k.tape.trans h.tape, k.output.trans h.output, Nat.le_trans h.size k.size, fun i hi ht ha hb =>
    (k.block i (Nat.lt_of_lt_of_le hi h.size) ht (h.na.not hi ha) (h.nb.not hi hb)).trans (h.block i hi ht ha hb), h.na.trans h.size k.na, h.nb.trans h.size k.nb⟩
theorem On3.of_below (gt : Nat) (h : Below W.heap.size W W1) (a b : Value) : On3 gt W W1 a b a b := ⟨h.os, h.tape, h.output, h.size, fun k hk _ _ _ => h.block k hk, .inl rfl, .inl rfl⟩
theorem On3.ontoA (gt : Nat) (h : Onto W W1 a a1) (b : Value) : On3 gt W W1 a b a1 b :=
  ⟨h.grown.os, h.grown.tape, h.grown.output, h.grown.size, fun k hk _ ha _ => h.grown.block k hk (fun e => ha e.symm), h.lies, .inl rfl⟩
theorem On3.ontoB (gt : Nat) (h : Onto W W1 b b1) (a : Value) : On3 gt W W1 a b a b1 :=
  ⟨h.grown.os, h.grown.tape, h.grown.output, h.grown.size, fun k hk _ _ hb => h.grown.block k hk (fun e => hb e.symm), .inl rfl, h.lies⟩
/-- A store into the block. -/
theorem On3.setT (h : On3 gt W W1 a b a1 b1) (i : Nat) (u : Value) : On3 gt W (W1.setCell ⟨gt, i, none⟩ u) a b a1 b1 :=
  ⟨h.os, h.tape, h.output, by simpa [World.setCell] using h.size, fun k hk ht ha hb => (Below.heap_setCell _ _ _ _ ht).trans (h.block k hk ht ha hb), h.na, h.nb⟩
/-- A row laid in a block that is new since W. -/
theorem On3.setRow (h : On3 gt W W1 a b a1 b1) {g : Nat} (hg : W.heap.size ≤ g) (cs : Array Value) : On3 gt W (W1.setRow g cs) a b a1 b1 :=
  ⟨h.os, h.tape, h.output, by simpa using h.size, fun k hk ht ha hb => (setRow_other _ _ _ _ (by omega)).trans (h.block k hk ht ha hb), h.na, h.nb⟩
end
end Go.Proofs.YthlaibkdcebekaaDoor
