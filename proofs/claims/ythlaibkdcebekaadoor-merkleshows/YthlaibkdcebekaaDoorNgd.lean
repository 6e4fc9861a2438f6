/- What a reader of a tree in parts holds; what a call of it leaves. A reader of a tree in parts at its block. The contract of readParts. -/
import Derived.Test.YthlaibkdcebekaaDoorNgc
namespace Go.Proofs.YthlaibkdcebekaaDoor
open Go.RowKit
open Go.Deep
theorem int_info : (Tryd.prog.info? 3).map (fun i => (i.zero, i.size, i.bytes)) = some (some (.int .i64 0), 1, 8) := by kernel_rfl
theorem int_parts : ∃ i, Tryd.prog.info? 3 = some i ∧ i.zero = some (.int .i64 0) ∧ i.size = 1 ∧ i.bytes = 8 := by
  have h := int_info
  cases hi : Tryd.prog.info? 3 with
  | none => rw [hi] at h; cases h
  | some i =>
    rw [hi] at h
    simp only [Option.map_some, Option.some.injEq, Prod.mk.injEq] at h
    exact ⟨i, rfl, h⟩
/-- A place, as a value. -/
def iv (n : Nat) : Value := .int .i64 (n : Int)
/-- Places of the program's own. -/
def OI (W : World) (v : Value) (ns : List Nat) : Prop := W.ownsRow 0 3 1 v ns.length (ns.map iv)
section
variable {W W' : World} {v v' : Value} {ns : List Nat}
theorem OI.nil (W : World) : OI W (.slice none 0 0) [] := World.ownsRow_nil _ _ _ _
theorem OI.of_block (h : OI W v ns) (hb : ∀ g, v.ownBlock = some g → W'.heap[g]? = W.heap[g]?) : OI W' v ns := row_blockG h hb
theorem OI.lt (h : OI W v ns) : ∀ g, v.ownBlock = some g → g < W.heap.size := fun g hg => (World.ownsRow.lt h g hg).2
theorem OI.below (h : OI W v ns) (b : Below W.heap.size W W') : OI W' v ns := h.of_block fun g hg => b.block _ (h.lt g hg)
theorem OI.form (h : OI W v ns) : ∃ ao c, v = .slice ao ns.length c := by
  rcases h.2 with ⟨rfl, h0⟩ | ⟨g, cap, cur, rfl, _⟩
  · exact ⟨none, 0, by rw [h0]⟩
  · exact ⟨_, _, rfl⟩
theorem OI.base (h : OI W v ns) (h0 : 0 < ns.length) : ∃ g c, v = .slice (some ⟨g, 0, none⟩) ns.length c := by
  rcases h.2 with ⟨rfl, h1⟩ | ⟨g, cap, cur, rfl, _⟩
  · omega
  · exact ⟨g, _, rfl⟩
theorem OI.cell {g c n : Nat} (h : OI W (.slice (some ⟨g, 0, none⟩) n c) ns) (i : Nat) (hi : i < ns.length) : W.cell? ⟨g, i, none⟩ = some (.int .i64 ((ns.getD i 0 : Nat) : Int)) := by
  have := World.ownsRow.cells h (g := g) rfl i (iv (ns.getD i 0)) (by simp [List.getD_eq_getElem?_getD, hi])
  have hadd : (⟨g, 0, none⟩ : Addr).add i = ⟨g, i, none⟩ := by unfold Addr.add; split <;> simp_all
  rw [hadd] at this
  exact this
theorem OI.app (h : OI W v ns) {ty : TypeId} (ad : Addr) (b : Nat) (hc1 : W.cell? ad = some (.int .i64 (b : Int))) (hn : ns.length ≤ 1000000) :
    ∃ v' W', (Builtin.append_ #[40, 40] ty #[v, .slice (some ad) 1 1]).run Tryd.prog W = .ok v' W' ∧ OI W' v' (ns ++ [b]) ∧ Onto W W' v v' := by
  obtain ⟨i0, hi, hz, hs, hby⟩ := int_parts
  obtain ⟨v', w', hr, h2, h3, _, h5⟩ := run_append_own_at (P := Tryd.prog) W 0 40 ty 3 i0 (.int .i64 0) 1 8 Tryd.underlying40 hi hz hs hby rfl (by decide) v ns.length (ns.map iv) h ad 1 1 [iv b] rfl
    (fun k u hu => by
      rcases k with _ | k
      · cases hu
        rw [show ad.add 0 = ad by unfold Addr.add; split <;> simp_all]
        exact hc1
      · simp at hu)
    (fun u hu => by simp at hu; rw [hu]; rfl) (by unfold maxLen; omega) (by omega) (Nat.zero_le _)
  refine ⟨v', w', hr, ?_, ⟨h3, ?_⟩⟩
  · unfold OI
    rw [List.length_append, List.map_append]
    exact h2
  · rcases h5 with h5 | h5
    · exact .inl h5
    · exact .inr ⟨_, h5, Nat.le_refl _⟩
end
section
variable {W : World} {ops : Array Oper} {rest : List Oper} {o : Oper} {a : Act} {Q : Exit → Act → World → Prop} {v : Value} {ns : List Nat}
theorem OI.wpApp (hgd : o.guard = none) (s y : Operand)
    (ho : o.op = .call { callee := .builtin .append, args := #[s, y], argTypes := #[40, 40] })
    (hs : a.eval s = v) (j : OI W v ns) (ad : Addr) (hy : a.eval y = .slice (some ad) 1 1) (b : Nat) (hc1 : W.cell? ad = some (.int .i64 (b : Int))) (hn : ns.length ≤ 1000000)
    (h : ∀ v' W', OI W' v' (ns ++ [b]) → Onto W W' v v' → wpList Tryd.prog ops Q rest (a.put o.dst v') W') :
    wpList Tryd.prog ops Q (o :: rest) a W := by
  refine wpList_plain hgd fun K0 hK => ?_
  obtain ⟨v', w', hr, h2, h3⟩ := OI.app (ty := o.type) j ad b hc1 hn
  unfold Oper.wp execOp
  simp only [ho, resolve, invoke, builtin, Sem.run_bind, Sem.run_pure, Result.andThen_ok, List.map_toArray, List.map_cons, List.map_nil, hs, hy, hr]
  exact hK _ _ (h v' w' h2 h3)
end
/-- What is left of marks behind the first. -/
theorem LB.tail {w : World} {g off n c : Nat} {b : Bool} {bs : List Bool} (h : LB w (.slice (some ⟨g, off, none⟩) n c) (b :: bs)) : LB w (.slice (some ⟨g, off + 1, none⟩) bs.length (c - 1)) bs := by
  obtain ⟨ao, cap, e, h1, h2⟩ := h
  cases e
  simp at h1
  refine ⟨_, _, rfl, by omega, fun i hi => ?_⟩
  obtain ⟨g', off', e', hg, hc⟩ := h2 (i + 1) (by simpa using hi)
  cases e'
  refine ⟨g, off + 1, rfl, hg, ?_⟩
  rw [show off + 1 + i = off + (i + 1) by omega, hc]
  simp
/-- What is left of ids behind the first. -/
theorem LH.tail {w : World} {g off n c : Nat} {x : List UInt8} {L : List (List UInt8)} (h : LH w (.slice (some ⟨g, off, none⟩) n c) (x :: L)) : LH w (.slice (some ⟨g, off + 32, none⟩) L.length (c - 1)) L := by
  obtain ⟨h0, ao, cap, e, h1, h2⟩ := h
  cases e
  simp at h1
  refine ⟨h0.tail, _, _, rfl, by omega, fun i hi => ?_⟩
  obtain ⟨g', off', e', hg, hc⟩ := h2 (i + 1) (by simpa using hi)
  cases e'
  refine ⟨g, off + 32, rfl, hg, ?_⟩
  rw [show off + 32 + i * 32 = off + (i + 1) * 32 by omega, show ia L i = ia (x :: L) (i + 1) by simp [ia]]
  exact hc
/-- What a call leaves that may write to the block gt and append to two lists. -/
structure On3 (gt : Nat) (W W' : World) (a b a' b' : Value) : Prop where
  os : W'.os = W.os
  tape : W'.tape = W.tape
  output : W'.output = W.output
  size : W.heap.size ≤ W'.heap.size
  block : ∀ k, k < W.heap.size → k ≠ gt → a.ownBlock ≠ some k → b.ownBlock ≠ some k → W'.heap[k]? = W.heap[k]?
  na : Nw2 W a a'
  nb : Nw2 W b b'
theorem Nw2.not {W : World} {a a' : Value} (h : Nw2 W a a') {k : Nat} (hk : k < W.heap.size) (ha : a.ownBlock ≠ some k) : a'.ownBlock ≠ some k := fun e => by
  rcases h with h1 | ⟨g, h1, hg⟩
  · exact ha (h1.symm.trans e)
  · rw [h1] at e
    injection e with e
    omega
section
variable {gt : Nat} {W W1 W2 : World} {a b a1 b1 a2 b2 v : Value}
theorem On3.refl (gt : Nat) (W : World) (a b : Value) : On3 gt W W a b a b := ⟨rfl, rfl, rfl, Nat.le_refl _, fun _ _ _ _ _ => rfl, .inl rfl, .inl rfl⟩
theorem On3.trans (h : On3 gt W W1 a b a1 b1) (k : On3 gt W1 W2 a1 b1 a2 b2) : On3 gt W W2 a b a2 b2 :=
  ⟨k.os.trans h.os, k.tape.trans h.tape, k.output.trans h.output, Nat.le_trans h.size k.size, fun i hi ht ha hb =>
    (k.block i (Nat.lt_of_lt_of_le hi h.size) ht (h.na.not hi ha) (h.nb.not hi hb)).trans (h.block i hi ht ha hb), h.na.trans h.size k.na, h.nb.trans h.size k.nb⟩
theorem On3.of_below (gt : Nat) (h : Below W.heap.size W W1) (a b : Value) : On3 gt W W1 a b a b := ⟨h.os, h.tape, h.output, h.size, fun k hk _ _ _ => h.block k hk, .inl rfl, .inl rfl⟩
theorem On3.ontoA (gt : Nat) (h : Onto W W1 a a1) (b : Value) : On3 gt W W1 a b a1 b :=
  ⟨h.grown.os, h.grown.tape, h.grown.output, h.grown.size, fun k hk _ ha _ => h.grown.block k hk (fun e => ha e.symm), h.lies, .inl rfl⟩
theorem On3.ontoB (gt : Nat) (h : Onto W W1 b b1) (a : Value) : On3 gt W W1 a b a b1 :=
  ⟨h.grown.os, h.grown.tape, h.grown.output, h.grown.size, fun k hk _ _ hb => h.grown.block k hk (fun e => hb e.symm), .inl rfl, h.lies⟩
/-- A store into the block. -/
theorem On3.setT (h : On3 gt W W1 a b a1 b1) (i : Nat) (u : Value) : On3 gt W (W1.setCell ⟨gt, i, none⟩ u) a b a1 b1 :=
  ⟨h.os, h.tape, h.output, by simpa [World.setCell] using h.size, fun k hk ht ha hb => (Below.heap_setCell _ _ _ _ ht).trans (h.block k hk ht ha hb), h.na, h.nb⟩
/-- A row laid in a block that is new since W. -/
theorem On3.setRow (h : On3 gt W W1 a b a1 b1) {g : Nat} (hg : W.heap.size ≤ g) (cs : Array Value) : On3 gt W (W1.setRow g cs) a b a1 b1 :=
  ⟨h.os, h.tape, h.output, by simpa using h.size, fun k hk ht ha hb => (setRow_other _ _ _ _ (by omega)).trans (h.block k hk ht ha hb), h.na, h.nb⟩
end
end Go.Proofs.YthlaibkdcebekaaDoor
namespace Go.Proofs.YthlaibkdcebekaaDoor
open Go.RowKit
open Go.Deep
/-- The cells of a reader. -/
def rc5 (n : Nat) (vb vi vp vm : Value) (i : Nat) : Value := if i = 0 then .int .i64 (n : Int) else if i = 1 then vb else if i = 2 then vi else if i = 3 then vp else vm
/-- A reader at block gt, all of it made behind B; what is left, what was met. -/
structure Rr (B W : World) (gt n : Nat) (vb vi vp vm : Value) (bs : List Bool) (is : List (List UInt8)) (ps : List Nat) (ms : List (List UInt8)) : Prop where
  bel : Below B.heap.size B W
  tfar : B.heap.size ≤ gt
  row : W.rowIs gt 65 5 (rc5 n vb vi vp vm)
  bits : LB B vb bs
  ids : LH B vi is
  pl : OI W vp ps
  pfar : ∀ g, vp.ownBlock = some g → B.heap.size ≤ g
  mt : OH 39 W vm ms
  mfar : ∀ g, vm.ownBlock = some g → B.heap.size ≤ g
section
variable {B W W' : World} {gt n : Nat} {vb vi vp vm v' : Value} {bs bs' : List Bool} {is is' : List (List UInt8)} {ps ps' : List Nat} {ms ms' : List (List UInt8)}
theorem oi_not {f : Nat → Value} (o : OI W vp ps) (r : W.rowIs gt 65 5 f) : vp.ownBlock ≠ some gt := fun e => by
  rcases o.2 with ⟨rfl, _⟩ | ⟨g1, cap, cur, rfl, _, hg, _⟩
  · cases e
  · cases e
    obtain ⟨c, hc, _⟩ := r
    rw [hg] at hc
    injection hc with hc
    injection hc with _ e2
    exact absurd e2 (by decide)
theorem oh_not5 {f : Nat → Value} (o : OH 39 W vm ms) (r : W.rowIs gt 65 5 f) : vm.ownBlock ≠ some gt := fun e => by
  rcases o.2.2 with ⟨rfl, _⟩ | ⟨g1, cap, cur, rfl, _, hg, _⟩
  · cases e
  · cases e
    obtain ⟨c, hc, _⟩ := r
    rw [hg] at hc
    injection hc with hc
    injection hc with _ e2
    exact absurd e2 (by decide)
theorem Rr.pm (j : Rr B W gt n vb vi vp vm bs is ps ms) : ∀ g, vp.ownBlock = some g → vm.ownBlock ≠ some g := fun g h1 h2 => by
  rcases j.pl.2 with ⟨rfl, _⟩ | ⟨g1, cap, cur, rfl, _, hg, _⟩
  · cases h1
  · rcases j.mt.2.2 with ⟨rfl, _⟩ | ⟨g2, cap2, cur2, rfl, _, hg2, _⟩
    · cases h2
    · cases h1
      cases h2
      rw [hg] at hg2
      injection hg2 with hg2
      injection hg2 with _ e2
      exact absurd e2 (by decide)
theorem Rr.next (j : Rr B W gt n vb vi vp vm bs is ps ms) (h : Below W.heap.size W W') : Rr B W' gt n vb vi vp vm bs is ps ms :=
  ⟨below_next j.bel h, j.tfar, World.rowIs.of_block j.row (h.block _ (World.rowIs.lt j.row)), j.bits, j.ids, j.pl.below h, j.pfar, j.mt.below h, j.mfar⟩
/-- Another world, where the reader's blocks are as they were. -/
theorem Rr.kept (j : Rr B W gt n vb vi vp vm bs is ps ms) (hb : Below B.heap.size B W') (h0 : W'.heap[gt]? = W.heap[gt]?) (h1 : ∀ g, vp.ownBlock = some g → W'.heap[g]? = W.heap[g]?) (h2 : ∀ g, vm.ownBlock = some g → W'.heap[g]? = W.heap[g]?) : Rr B W' gt n vb vi vp vm bs is ps ms :=
  ⟨hb, j.tfar, World.rowIs.of_block j.row h0, j.bits, j.ids, j.pl.of_block h1, j.pfar, j.mt.of_block h2, j.mfar⟩
/-- The bits that are left, laid. -/
theorem Rr.setB (j : Rr B W gt n vb vi vp vm bs is ps ms) (h : LB B v' bs') : Rr B (W.setCell ⟨gt, 1, none⟩ v') gt n v' vi vp vm bs' is ps ms := by
  refine ⟨j.bel.setCell j.tfar _, j.tfar, (World.rowIs.set j.row 1 v').congr (fun i hi => ?_), h, j.ids, j.pl.of_block (fun g hg => Below.heap_setCell _ _ _ _ (fun e => oi_not j.pl j.row (hg.trans (congrArg some e)))), j.pfar, j.mt.of_block (fun g hg => Below.heap_setCell _ _ _ _ (fun e => oh_not5 j.mt j.row (hg.trans (congrArg some e)))), j.mfar⟩
  have : i = 0 ∨ i = 1 ∨ i = 2 ∨ i = 3 ∨ i = 4 := by omega
  rcases this with rfl | rfl | rfl | rfl | rfl <;> simp [rc5]
/-- The ids that are left, laid. -/
theorem Rr.setI (j : Rr B W gt n vb vi vp vm bs is ps ms) (h : LH B v' is') : Rr B (W.setCell ⟨gt, 2, none⟩ v') gt n vb v' vp vm bs is' ps ms := by
  refine ⟨j.bel.setCell j.tfar _, j.tfar, (World.rowIs.set j.row 2 v').congr (fun i hi => ?_), j.bits, h, j.pl.of_block (fun g hg => Below.heap_setCell _ _ _ _ (fun e => oi_not j.pl j.row (hg.trans (congrArg some e)))), j.pfar, j.mt.of_block (fun g hg => Below.heap_setCell _ _ _ _ (fun e => oh_not5 j.mt j.row (hg.trans (congrArg some e)))), j.mfar⟩
  have : i = 0 ∨ i = 1 ∨ i = 2 ∨ i = 3 ∨ i = 4 := by omega
  rcases this with rfl | rfl | rfl | rfl | rfl <;> simp [rc5]
theorem Rr.rowP (j : Rr B W gt n vb vi vp vm bs is ps ms) (h : Onto W W' vp v') : W'.rowIs gt 65 5 (rc5 n vb vi vp vm) :=
  World.rowIs.of_block j.row (h.grown.block _ (World.rowIs.lt j.row) (fun e => oi_not j.pl j.row e.symm))
theorem Rr.rowM (j : Rr B W gt n vb vi vp vm bs is ps ms) (h : Onto W W' vm v') : W'.rowIs gt 65 5 (rc5 n vb vi vp vm) :=
  World.rowIs.of_block j.row (h.grown.block _ (World.rowIs.lt j.row) (fun e => oh_not5 j.mt j.row e.symm))
/-- A place more. -/
theorem Rr.place (j : Rr B W gt n vb vi vp vm bs is ps ms) (o : OI W' v' ps') (h : Onto W W' vp v') : Rr B (W'.setCell ⟨gt, 3, none⟩ v') gt n vb vi v' vm bs is ps' ms := by
  have hr := j.rowP h
  refine ⟨(j.bel.trans (h.below j.bel.size j.pfar)).setCell j.tfar _, j.tfar, (World.rowIs.set hr 3 v').congr (fun i hi => ?_), j.bits, j.ids, o.of_block (fun g hg => Below.heap_setCell _ _ _ _ (fun e => oi_not o hr (hg.trans (congrArg some e)))), h.far j.bel.size j.pfar, (j.mt.of_block fun g hg => h.grown.block g (j.mt.lt g hg) (fun e => j.pm g e.symm hg)).of_block (fun g hg => Below.heap_setCell _ _ _ _ (fun e => oh_not5 j.mt j.row (hg.trans (congrArg some e)))), j.mfar⟩
  have : i = 0 ∨ i = 1 ∨ i = 2 ∨ i = 3 ∨ i = 4 := by omega
  rcases this with rfl | rfl | rfl | rfl | rfl <;> simp [rc5]
/-- A meant id more. -/
theorem Rr.meant (j : Rr B W gt n vb vi vp vm bs is ps ms) (o : OH 39 W' v' ms') (h : Onto W W' vm v') : Rr B (W'.setCell ⟨gt, 4, none⟩ v') gt n vb vi vp v' bs is ps ms' := by
  have hr := j.rowM h
  refine ⟨(j.bel.trans (h.below j.bel.size j.mfar)).setCell j.tfar _, j.tfar, (World.rowIs.set hr 4 v').congr (fun i hi => ?_), j.bits, j.ids, (j.pl.of_block fun g hg => h.grown.block g (j.pl.lt g hg) (fun e => j.pm g hg e.symm)).of_block (fun g hg => Below.heap_setCell _ _ _ _ (fun e => oi_not j.pl j.row (hg.trans (congrArg some e)))), j.pfar, o.of_block (fun g hg => Below.heap_setCell _ _ _ _ (fun e => oh_not5 o hr (hg.trans (congrArg some e)))), h.far j.bel.size j.mfar⟩
  have : i = 0 ∨ i = 1 ∨ i = 2 ∨ i = 3 ∨ i = 4 := by omega
  rcases this with rfl | rfl | rfl | rfl | rfl <;> simp [rc5]
end
/-- What a call of the reader answers. -/
def RA (B w' : World) (gt n : Nat) (vp' vm' : Value) (ps : List Nat) (ms : List (List UInt8)) : Option Rd → Ending → Prop
  | none, e => e = .returned (.tuple #[.agg (hc zeros), .bool false])
  | some r, e => e = .returned (.tuple #[.agg (hc r.id), .bool true]) ∧ r.id.length = 32 ∧ ∃ vb' vi', Rr B w' gt n vb' vi' vp' vm' r.bits r.ids (ps ++ r.places) (ms ++ r.meant)
/-- What read does at a level and a place. -/
def RR (B : World) (gt n k p : Nat) : Prop :=
  ∀ (vb vi vp vm : Value) (bs : List Bool) (is : List (List UInt8)) (ps : List Nat) (ms : List (List UInt8)) (W : World), Rr B W gt n vb vi vp vm bs is ps ms → ps.length + 2 ^ k ≤ 1000000 → ms.length + 2 ^ k ≤ 1000000 →
    Calls Tryd.prog 24 #[.pointer (some ⟨gt, 0, none⟩), .int .i64 (k : Int), .int .i64 (p : Int)] W fun e w' => ∃ vp' vm', On3 gt W w' vp vm vp' vm' ∧ Below B.heap.size B w' ∧ RA B w' gt n vp' vm' ps ms (rd n k p bs is) e
/-- What is read of two that stand together. -/
def rdP (n k q : Nat) (bs : List Bool) (is : List (List UInt8)) : Option Rd :=
  match rd n k q bs is with
  | none => none
  | some a =>
    if q + 1 < wdt n k then
      match rd n k (q + 1) a.bits a.ids with
      | none => none
      | some b => if a.id = b.id then none else some ⟨pr a.id b.id, b.bits, b.ids, a.places ++ b.places, a.meant ++ b.meant⟩
    else some ⟨pr a.id a.id, a.bits, a.ids, a.places, a.meant⟩
theorem rd_up (n k p : Nat) (bs : List Bool) (is : List (List UInt8)) : rd n (k + 1) p (true :: bs) is = rdP n k (2 * p) bs is := rfl
/-- What readParts does. -/
def RP (B : World) (gt n k q : Nat) : Prop :=
  ∀ (vb vi vp vm : Value) (bs : List Bool) (is : List (List UInt8)) (ps : List Nat) (ms : List (List UInt8)) (W : World), Rr B W gt n vb vi vp vm bs is ps ms → ps.length + 2 ^ (k + 1) ≤ 1000000 → ms.length + 2 ^ (k + 1) ≤ 1000000 →
    Calls Tryd.prog 37 #[.pointer (some ⟨gt, 0, none⟩), .int .i64 (k : Int), .int .i64 (q : Int)] W fun e w' => ∃ vp' vm', On3 gt W w' vp vm vp' vm' ∧ Below B.heap.size B w' ∧ RA B w' gt n vp' vm' ps ms (rdP n k q bs is) e
/-- Not more is met than there are positions beneath. -/
theorem rd_len (n : Nat) : ∀ (k p : Nat) (bs : List Bool) (is : List (List UInt8)) (r : Rd), rd n k p bs is = some r → r.places.length ≤ 2 ^ k ∧ r.meant.length ≤ 2 ^ k
  | _, _, [], _, r, h => by simp [rd] at h
  | 0, _, _ :: _, [], r, h => by simp [rd] at h
  | 0, p, b :: bs, x :: is, r, h => by
    simp [rd] at h
    subst h
    cases b <;> simp
  | _ + 1, _, false :: _, [], r, h => by simp [rd] at h
  | _ + 1, _, false :: bs, x :: is, r, h => by
    simp [rd] at h
    subst h
    simp
  | k + 1, p, true :: bs, is, r, h => by
    rw [rd_up, rdP] at h
    have e2 : 2 ^ (k + 1) = 2 ^ k + 2 ^ k := by rw [Nat.pow_succ]; omega
    cases ha : rd n k (2 * p) bs is with
    | none => rw [ha] at h; cases h
    | some a =>
      rw [ha] at h
      have l1 := rd_len n k _ _ _ _ ha
      simp only at h
      split at h
      · cases hb : rd n k (2 * p + 1) a.bits a.ids with
        | none => rw [hb] at h; cases h
        | some b =>
          rw [hb] at h
          have l2 := rd_len n k _ _ _ _ hb
          simp only at h
          split at h
          · cases h
          · cases h
            simp only [List.length_append]
            omega
      · cases h
        simp only
        omega
end Go.Proofs.YthlaibkdcebekaaDoor
namespace Go.Proofs.YthlaibkdcebekaaDoor
open Go.RowKit
open Go.Deep
theorem wpList_loadG6 {t : TypeId} {n : Nat} {z : Array Value} {w : World} {ops : Array Oper} {rest : List Oper} {o : Oper} {a : Act} {Q : Exit → Act → World → Prop} (A : Arr t n z) (x : Operand) (ho : o.op = .load t x) (g : Nat) (hx : a.eval x = .pointer (some ⟨g, 0, none⟩)) (c : Array Value) (hn : c.size = n) (t' : TypeId) (hg : w.heap[g]? = some (.cells c t' (0, 0))) (hw : Region.wanted o (yielded ops a.tmps) = true)
    (h : wpList Tryd.prog ops Q rest (a.put o.dst (.agg c)) w) : wpList Tryd.prog ops Q (o :: rest) a w := by
  refine wpList_step fun K hK => ?_
  rw [if_pos hw]
  unfold Oper.wp execOp
  simp only [ho, hx, Sem.run_bind, ld_row A hn hg, Result.andThen_ok, Sem.run_pure]
  exact hK _ _ h
/-- What stands while a call of the reader runs: its answer's place at block gr. -/
structure Pq (B W : World) (gt gr : Nat) (vp vm : Value) (W' : World) (vp' vm' : Value) : Prop where
  on : On3 gt W W' vp vm vp' vm'
  bel : Below B.heap.size B W'
  res : W'.heap[gr]? = some (.cells (hc zeros) 39 (0, 0))
  new : W.heap.size ≤ gr
  far : B.heap.size ≤ gr
  ne : gr ≠ gt
  np : vp'.ownBlock ≠ some gr
  nm : vm'.ownBlock ≠ some gr
section
variable {B W W1 W2 : World} {gt gr n : Nat} {vb vi vp vm vp1 vm1 vp2 vm2 : Value} {bs : List Bool} {is : List (List UInt8)} {ps : List Nat} {ms : List (List UInt8)}
theorem Pq.start (j : Rr B W gt n vb vi vp vm bs is ps ms) : Pq B W gt W.heap.size vp vm (W.alloc (.cells (hc zeros) 39)) vp vm := by
  have b : Below W.heap.size W (W.alloc (.cells (hc zeros) 39)) := (Below.refl _ _).alloc (Nat.le_refl _) _
  refine ⟨On3.of_below gt b _ _, below_next j.bel b, heap_alloc_last _ _, Nat.le_refl _, j.bel.size, fun e => ?_, fun e => ?_, fun e => ?_⟩
  · have := World.rowIs.lt j.row
    omega
  · have := j.pl.lt _ e
    omega
  · have := j.mt.lt _ e
    omega
theorem Pq.next (q : Pq B W gt gr vp vm W1 vp1 vm1) (b : Below W1.heap.size W1 W2) : Pq B W gt gr vp vm W2 vp1 vm1 :=
  ⟨q.on.trans (On3.of_below gt b _ _), below_next q.bel b, (b.block _ (lt_heap q.res)).trans q.res, q.new, q.far, q.ne, q.np, q.nm⟩
theorem Pq.call (q : Pq B W gt gr vp vm W1 vp1 vm1) (o : On3 gt W1 W2 vp1 vm1 vp2 vm2) (b : Below B.heap.size B W2) : Pq B W gt gr vp vm W2 vp2 vm2 :=
  ⟨q.on.trans o, b, (o.block _ (lt_heap q.res) q.ne q.np q.nm).trans q.res, q.new, q.far, q.ne, o.na.not (lt_heap q.res) q.np, o.nb.not (lt_heap q.res) q.nm⟩
theorem Pq.fin (q : Pq B W gt gr vp vm W1 vp1 vm1) (cs : Array Value) : On3 gt W (W1.setRow gr cs) vp vm vp1 vm1 ∧ Below B.heap.size B (W1.setRow gr cs) :=
  ⟨q.on.setRow q.new cs, below_setRow q.bel q.far cs⟩
theorem Pq.rr (q : Pq B W gt gr vp vm W1 vp1 vm1) (cs : Array Value) (j : Rr B W1 gt n vb vi vp1 vm1 bs is ps ms) : Rr B (W1.setRow gr cs) gt n vb vi vp1 vm1 bs is ps ms :=
  j.kept (below_setRow q.bel q.far cs) (setRow_other _ _ _ _ (Ne.symm q.ne)) (fun _ hg => setRow_other _ _ _ _ (fun e => q.np (hg.trans (congrArg some e)))) (fun _ hg => setRow_other _ _ _ _ (fun e => q.nm (hg.trans (congrArg some e))))
/-- Another block of the caller's stays over a call. -/
theorem On3.keep (o : On3 gt W1 W2 vp1 vm1 vp2 vm2) {g : Nat} {ob : Obj} (h : W1.heap[g]? = some ob) (ne : g ≠ gt) (np : vp1.ownBlock ≠ some g) (nm : vm1.ownBlock ≠ some g) : W2.heap[g]? = some ob :=
  (o.block g (lt_heap h) ne np nm).trans h
end
section
set_option maxRecDepth 10000
set_option maxHeartbeats 4000000
theorem readParts_any {B : World} {gt n : Nat} (hK : Kg B) (hn : n ≤ 65536) (k q : Nat) (hk : k ≤ 16) (hq : q ≤ 262144) (I1 : RR B gt n k q) (I2 : RR B gt n k (q + 1)) : RP B gt n k q := by
  intro vb vi vp vm bs is ps ms W J hb1 hb2
  have KW : Hid (∀ W, Below B.heap.size B W → Kg W) := fun W h => hK.next h
  have e2 : 2 ^ (k + 1) = 2 ^ k + 2 ^ k := by rw [Nat.pow_succ]; omega
  have hpw : 0 < 2 ^ k := Nat.pos_of_ne_zero (by simp)
  have P1 := hide (Pq.start J)
  have J1 := hide (J.next ((Below.refl _ _).alloc (Nat.le_refl _) (.cells (hc zeros) 39)))
  have H1 := hide (I1 vb vi vp vm bs is ps ms _ J1.out (by omega) (by omega))
  have HW := hide fun W => width_any n k (by omega) (by omega) W
  have w1 : IntKind.i64.wrap ((q : Int) + 1) = ((q + 1 : Nat) : Int) := by rw [wrapI _ (by omega) (by omega)]; omega
  have HI2 := hide I2
  have HB := hide (And.intro hb1 hb2)
  have HE2 := hide e2
  clear I1 I2 hK hn hk hq hb1 hb2 e2 J hpw
  generalize hq1 : q + 1 = q1 at *
  generalize hRD : rdP n k q bs is = RDP at *
  unfold rdP at hRD
  rw [hq1] at hRD
  have HQ1 := hide hq1
  clear hq1
  cases hr : rd n k q bs is with
  | none =>
    rw [hr] at hRD H1
    have HR : Hid (RDP = none) := hRD.symm
    clear hRD hr
    go_enter Tryd.func37, Tryd.ntmps37
    go_upto_region 1 with (first | refine wpList_allocA A25 rfl rfl ?_)
    generalize W.alloc (.cells (hc zeros) 39) = W1 at *
    generalize W.heap.size = gr at *
    go_upto_region 3 with (first | (go_at_call 24; refine H1.out.mono ?_; rintro e w2 ⟨vp2, vm2, o2, be2, ra⟩; have ra2 : e = .returned (.tuple #[.agg (hc zeros), .bool false]) := ra; subst ra2; clear ra; have P2 := hide (P1.out.call o2 be2); have P3 := hide (P2.out.next ((Below.refl _ _).alloc (Nat.le_refl _) (.cells (hc zeros) 39))); clear o2 be2) | refine wpList_allocA A25 rfl rfl ?_ | refine wpList_store_newA A25 rfl _ _ rfl _ rfl (hc zeros) (by rw [hc_size, zeros_len]) (hc_one _) rfl rfl ?_)
    generalize w2.alloc (.cells (hc zeros) 39) = W3 at *
    go_wp2_with (first | refine wpList_buildA A25 rfl rfl ?_ | refine wpList_storeA A25 rfl _ _ rfl gr (hc zeros) (by rw [hc_size, zeros_len]) (hc_one _) rfl rfl (hc zeros) (by rw [hc_size, zeros_len]) 39 P3.out.res ?_)
    refine bodyPost_ret (v := .tuple #[.agg (hc zeros), .bool false]) (resAB A25 Tryd.results37 _ _ gr 39 (hc zeros) (by rw [hc_size, zeros_len]) rfl (setRow_heap _ _ _ _ _ _ P3.out.res) _ (by rfl)) rfl ⟨vp2, vm2, (P3.out.fin _).1, (P3.out.fin _).2, ?_⟩
    rw [HR.out]
    exact rfl
  | some a =>
    rw [hr] at hRD H1
    have HL1 := hide (rd_len n k q bs is a hr)
    simp only at hRD
    clear hr
    obtain ⟨A, bsA, isA, psA, msA⟩ := a
    simp only at hRD HL1
    have HRD := hide hRD
    clear hRD
    go_enter Tryd.func37, Tryd.ntmps37
    go_upto_region 1 with (first | refine wpList_allocA A25 rfl rfl ?_)
    generalize W.alloc (.cells (hc zeros) 39) = W1 at *
    generalize W.heap.size = gr at *
    go_upto_region 4 with (first | (go_at_call 24; refine H1.out.mono ?_; rintro e w2 ⟨vp2, vm2, o2, be2, ra⟩; obtain ⟨ra2, ra3, vb2, vi2, j2⟩ := ra; simp only at ra2 ra3 j2; subst ra2; have LA := hide ra3; have P2 := hide (P1.out.call o2 be2); have J2 := hide j2; clear o2 be2 ra3 j2) | refine wpList_allocA A25 rfl rfl ?_ | refine wpList_store_newA A25 rfl _ _ rfl _ rfl (hc A) (by rw [hc_size, LA.out]) (hc_one _) rfl rfl ?_)
    have P3 := hide (P2.out.next ((Below.refl _ _).alloc (Nat.le_refl _) (.cells (hc A) 39)))
    have J3 := hide (J2.out.next ((Below.refl _ _).alloc (Nat.le_refl _) (.cells (hc A) 39)))
    have R3 := hide (heap_alloc_last w2 (.cells (hc A) 39))
    have D3 : Hid (w2.heap.size ≠ gt ∧ vp2.ownBlock ≠ some w2.heap.size ∧ vm2.ownBlock ≠ some w2.heap.size) :=
      ⟨fun e => by have := World.rowIs.lt J2.out.row; omega, fun e => by have := J2.out.pl.lt _ e; omega, fun e => by have := J2.out.mt.lt _ e; omega⟩
    clear P1 P2 J1 J2 H1
    generalize w2.alloc (.cells (hc A) 39) = W3 at *
    generalize w2.heap.size = ga at *
    have x0 := World.rowIs.cell J3.out.row (i := 0) (by decide)
    rw [show rc5 n vb2 vi2 vp2 vm2 0 = .int .i64 (n : Int) from rfl] at x0
    by_cases hsec : q1 < wdt n k
    · have hc5 : ¬ ((wdt n k : Nat) : Int) ≤ (q1 : Int) := by omega
      have HS := hide hsec
      clear hsec
      have HRD2 := HRD
      rw [if_pos HS.out] at HRD2
      clear HRD
      have H2 := hide (HI2.out vb2 vi2 vp2 vm2 bsA isA (ps ++ psA) (ms ++ msA) W3 J3.out (by have := HB.out.1; have := HE2.out; have := HL1.out.1; rw [List.length_append]; omega) (by have := HB.out.2; have := HE2.out; have := HL1.out.2; rw [List.length_append]; omega))
      clear HI2
      cases hr : rd n k q1 bsA isA with
      | none =>
        rw [hr] at HRD2 H2
        have HR : Hid (RDP = none) := HRD2.out.symm
        clear HRD2 hr
        go_upto_region 8 with (first | (go_at_call 34; refine (HW.out _).mono ?_; rintro e w4 ⟨rfl, hww⟩; subst w4) | (go_at_call 24; refine H2.out.mono ?_; rintro e w5 ⟨vp5, vm5, o5, be5, ra⟩; have ra2 : e = .returned (.tuple #[.agg (hc zeros), .bool false]) := ra; subst ra2; clear ra; have P5 := hide (P3.out.call o5 be5); have P6 := hide (P5.out.next ((Below.refl _ _).alloc (Nat.le_refl _) (.cells (hc zeros) 39))); clear o5 be5) | refine wpList_allocA A25 rfl rfl ?_ | refine wpList_store_newA A25 rfl _ _ rfl _ rfl (hc zeros) (by rw [hc_size, zeros_len]) (hc_one _) rfl rfl ?_)
        generalize w5.alloc (.cells (hc zeros) 39) = W6 at *
        go_wp2_with (first | refine wpList_buildA A25 rfl rfl ?_ | refine wpList_storeA A25 rfl _ _ rfl gr (hc zeros) (by rw [hc_size, zeros_len]) (hc_one _) rfl rfl (hc zeros) (by rw [hc_size, zeros_len]) 39 P6.out.res ?_)
        refine bodyPost_ret (v := .tuple #[.agg (hc zeros), .bool false]) (resAB A25 Tryd.results37 _ _ gr 39 (hc zeros) (by rw [hc_size, zeros_len]) rfl (setRow_heap _ _ _ _ _ _ P6.out.res) _ (by rfl)) rfl ⟨vp5, vm5, (P6.out.fin _).1, (P6.out.fin _).2, ?_⟩
        rw [HR.out]
        exact rfl
      | some b =>
        rw [hr] at HRD2 H2
        simp only at HRD2
        clear hr
        obtain ⟨C, bsC, isC, psC, msC⟩ := b
        simp only at HRD2
        go_upto_region 7 with (first | (go_at_call 34; refine (HW.out _).mono ?_; rintro e w4 ⟨rfl, hww⟩; subst w4) | (go_at_call 24; refine H2.out.mono ?_; rintro e w5 ⟨vp5, vm5, o5, be5, ra⟩; obtain ⟨ra2, ra3, vb5, vi5, j5⟩ := ra; simp only at ra2 ra3 j5; subst ra2; have LC := hide ra3; have P5 := hide (P3.out.call o5 be5); have J5 := hide j5; have R5 := hide (o5.keep R3.out D3.out.1 D3.out.2.1 D3.out.2.2); clear o5 be5 ra3 j5) | refine wpList_allocA A25 rfl rfl ?_ | refine wpList_store_newA A25 rfl _ _ rfl _ rfl (hc C) (by rw [hc_size, LC.out]) (hc_one _) rfl rfl ?_)
        have b6 : Below w5.heap.size w5 (w5.alloc (.cells (hc C) 39)) := (Below.refl _ _).alloc (Nat.le_refl _) _
        have P6 := hide (P5.out.next b6)
        have J6 := hide (J5.out.next b6)
        have R6 := hide ((b6.block _ (lt_heap R5.out)).trans R5.out)
        have R7 := hide (heap_alloc_last w5 (.cells (hc C) 39))
        clear b6 P5 J5 R5 P3 J3 R3 x0
        generalize w5.alloc (.cells (hc C) 39) = W6 at *
        generalize w5.heap.size = gc at *
        have E6 := hide (eqH EH A C LA.out LC.out)
        by_cases hAC : A = C
        · rw [if_pos hAC] at HRD2
          have HR : Hid (RDP = none) := HRD2.out.symm
          rw [show (A == C) = true by rw [beq_iff_eq]; exact hAC] at E6
          clear HRD2 hAC
          go_wp2_with (first | refine wpList_loadG6 A25 _ rfl ga rfl (hc A) (by rw [hc_size, LA.out]) 39 R6.out rfl ?_ | refine wpList_loadG6 A25 _ rfl gc rfl (hc C) (by rw [hc_size, LC.out]) 39 R7.out rfl ?_ | refine wpList_eql 39 _ _ _ rfl (hc A) (hc C) rfl rfl rfl eqg25 true E6.out ?_ | refine wpList_buildA A25 rfl rfl ?_ | refine wpList_storeA A25 rfl _ _ rfl gr (hc zeros) (by rw [hc_size, zeros_len]) (hc_one _) rfl rfl (hc zeros) (by rw [hc_size, zeros_len]) 39 P6.out.res ?_)
          refine bodyPost_ret (v := .tuple #[.agg (hc zeros), .bool false]) (resAB A25 Tryd.results37 _ _ gr 39 (hc zeros) (by rw [hc_size, zeros_len]) rfl (setRow_heap _ _ _ _ _ _ P6.out.res) _ (by rfl)) rfl ⟨vp5, vm5, (P6.out.fin _).1, (P6.out.fin _).2, ?_⟩
          rw [HR.out]
          exact rfl
        · rw [if_neg hAC] at HRD2
          have HR : Hid (RDP = _) := HRD2.out.symm
          rw [show (A == C) = false by rw [beq_eq_false_iff_ne]; exact hAC] at E6
          have HP := hide (pair_any A C LA.out LC.out W6 (KW.out _ P6.out.bel))
          have LP := hide (pr_len A C)
          clear HRD2 hAC
          generalize pr A C = X at *
          go_wp2_with (first | refine wpList_loadG6 A25 _ rfl ga rfl (hc A) (by rw [hc_size, LA.out]) 39 R6.out rfl ?_ | refine wpList_loadG6 A25 _ rfl gc rfl (hc C) (by rw [hc_size, LC.out]) 39 R7.out rfl ?_ | refine wpList_eql 39 _ _ _ rfl (hc A) (hc C) rfl rfl rfl eqg25 false E6.out ?_ | (go_at_call 30; refine HP.out.mono ?_; rintro e w8 ⟨rfl, be⟩; have P8 := hide (P6.out.next be); have J8 := hide (J6.out.next be); clear be) | refine wpList_storeA A25 rfl _ _ rfl gr (hc X) (by rw [hc_size, LP.out]) (hc_one _) rfl rfl (hc zeros) (by rw [hc_size, zeros_len]) 39 P8.out.res ?_)
          refine bodyPost_ret (v := .tuple #[.agg (hc X), .bool true]) (resAB A25 Tryd.results37 _ _ gr 39 (hc X) (by rw [hc_size, LP.out]) rfl (setRow_heap _ _ _ _ _ _ P8.out.res) _ (by rfl)) rfl ⟨vp5, vm5, (P8.out.fin _).1, (P8.out.fin _).2, ?_⟩
          rw [HR.out]
          exact ⟨rfl, LP.out, vb5, vi5, by rw [← List.append_assoc, ← List.append_assoc]; exact P8.out.rr _ J8.out⟩
    · have hc5 : ((wdt n k : Nat) : Int) ≤ (q1 : Int) := by omega
      rw [if_neg hsec] at HRD
      have HR : Hid (RDP = _) := HRD.out.symm
      have HP := hide (pair_any A A LA.out LA.out W3 (KW.out _ P3.out.bel))
      have LP := hide (pr_len A A)
      clear HRD hsec HI2
      generalize pr A A = X at *
      go_wp2_with (first | (go_at_call 34; refine (HW.out _).mono ?_; rintro e w4 ⟨rfl, hww⟩; subst w4) | refine wpList_loadG6 A25 _ rfl ga rfl (hc A) (by rw [hc_size, LA.out]) 39 R3.out rfl ?_ | (go_at_call 30; refine HP.out.mono ?_; rintro e w8 ⟨rfl, be⟩; have P8 := hide (P3.out.next be); have J8 := hide (J3.out.next be); clear be) | refine wpList_storeA A25 rfl _ _ rfl gr (hc X) (by rw [hc_size, LP.out]) (hc_one _) rfl rfl (hc zeros) (by rw [hc_size, zeros_len]) 39 P8.out.res ?_)
      refine bodyPost_ret (v := .tuple #[.agg (hc X), .bool true]) (resAB A25 Tryd.results37 _ _ gr 39 (hc X) (by rw [hc_size, LP.out]) rfl (setRow_heap _ _ _ _ _ _ P8.out.res) _ (by rfl)) rfl ⟨vp2, vm2, (P8.out.fin _).1, (P8.out.fin _).2, ?_⟩
      rw [HR.out]
      exact ⟨rfl, LP.out, vb2, vi2, P8.out.rr _ J8.out⟩
end
end Go.Proofs.YthlaibkdcebekaaDoor
