/- A tree: what is known of it while a node is hung on it. What the law makes of headers: two rows of its own, side by side. Appends of whole lists, cuts of rows of one's own. A row of one's own can be written in its midst; the list while it is changed from its beginning on. Trees in parts: what is told of a list and marks, and what is read; the mathematics. Lists of marks in memory; the contract of the document's meant. -/
import Derived.Test.YtofddbjnncgmlaaGreatDoorX46
import Derived.Test.YtofddbjnncgmlaaGreatDoorX45
import Derived.Test.YtofddbjnncgmlaaGreatDoorX29
namespace Go.Proofs.YtofddbjnncgmlaaGreatDoor
open Go.RowKit
open Go.Deep
open Go.Maps
set_option linter.unusedVariables false
set_option linter.unusedSimpArgs false
section
variable {α : Type} {E : Ek α}
theorem flatE_set (L : List α) : ∀ (k : Nat) (hk : k < L.length) (x : α) (j : Nat) (hj : j < E.k) (v : Value), E.enc x = (E.enc L[k]).set j v → flatE E (L.set k x) = (flatE E L).set (k * E.k + j) v := by
  induction L with
  | nil => intro k hk; simp at hk
  | cons a r ih =>
    intro k hk x j hj v hx
    cases k with
    | zero =>
      simp only [List.set_cons_zero, flatE_cons, Nat.zero_mul, Nat.zero_add]
      rw [List.set_append_left _ _ (by rw [E.len]; exact hj), hx]
      rfl
    | succ k =>
      simp only [List.set_cons_succ, flatE_cons]
      rw [List.set_append_right _ _ (by rw [E.len, Nat.succ_mul]; omega), E.len, ih k (by simpa using hk) x j hj v hx]
      congr 2
      rw [Nat.succ_mul]
      omega
theorem OX.form0 {W : World} {v : Value} {L : List α} (h : OX E W v L) (h0 : 0 < L.length) : ∃ g c, v = .slice (some ⟨g, 0, none⟩) L.length c := by
  obtain ⟨_, ⟨_, e⟩ | ⟨g, cap, cur, e, _⟩⟩ := h
  · omega
  · exact ⟨g, cap, e⟩
theorem OX.setC {W : World} {g c : Nat} {L : List α} (h : OX E W (.slice (some ⟨g, 0, none⟩) L.length c) L) (k : Nat) (hk : k < L.length) (x : α) (j : Nat) (hj : j < E.k) (v : Value) (hx : E.enc x = (E.enc L[k]).set j v) : OX E (W.setCell ⟨g, k * E.k + j, none⟩ v) (.slice (some ⟨g, 0, none⟩) L.length c) (L.set k x) := by
  obtain ⟨hl, ⟨e, _⟩ | ⟨g', cap, cur, e, hb, hh, h1, h2, h3, h4⟩⟩ := h
  · cases e
  · cases e
    refine ⟨by rw [flatE_set L k hk x j hj v hx, List.length_set, List.length_set]; exact hl, .inr ⟨g, c, cur.setIfInBounds (k * E.k + j) v, by rw [List.length_set], hb, heap_setCell_same W g _ _ _ v hh, by rw [List.length_set]; exact h1, h2, by rw [Array.size_setIfInBounds]; exact h3, ?_⟩⟩
    rw [flatE_set L k hk x j hj v hx, List.length_set, Array.toList_setIfInBounds, ← h4]
    rw [List.take_set]
end
/-- A node on which one more stands. -/
def Tno.withYo (x : Tno) (p : Nat) : Tno := { x with yo := p }
theorem Tno.withYo_cells (x : Tno) (p : Nat) : (x.withYo p).cells = x.cells.set 112 (.int .i64 (p : Int)) := by
  rw [Tno.cells, Tno.cells, List.set_append_right _ _ (by rw [x.pub_len]; omega), x.pub_len]
  rfl
theorem Tm4.setYo {B W : World} {gt gm n g c : Nat} {D : DataW Unit} {L : List Tno} {tu be bh : Nat} (h : Tm4 B W gt gm n D (.slice (some ⟨g, 0, none⟩) L.length c) L tu be bh) (k : Nat) (hk : k < L.length) (p : Nat) : Tm4 B (W.setCell ⟨g, k * 114 + 112, none⟩ (.int .i64 (p : Int))) gt gm n D (.slice (some ⟨g, 0, none⟩) L.length c) (L.set k (L[k].withYo p)) tu be bh := by
  have hne := h.be g rfl
  have hb : ∀ q, q ≠ g → (W.setCell ⟨g, k * 114 + 112, none⟩ (.int .i64 (p : Int))).heap[q]? = W.heap[q]? := fun q hq => Below.heap_setCell _ _ _ _ hq
  have hsz : (W.setCell ⟨g, k * 114 + 112, none⟩ (.int .i64 (p : Int))).heap.size = W.heap.size := by simp [World.setCell]
  exact ⟨(hb gt (fun e => hne.2.1 e.symm)).trans h.row, h.map.of_block (hb gm (fun e => hne.2.2 e.symm)), OX.setC (E := KNo) h.own k hk _ 112 (by decide) _ (L[k].withYo_cells p), ⟨h.bel.os, h.bel.tape, h.bel.output, by rw [hsz]; exact h.bel.size, fun q hq => (hb q (by omega)).trans (h.bel.block q hq)⟩, h.bt, h.bm, h.ne, h.be⟩
theorem Tm4.putM {B W W' : World} {gt gm n n' : Nat} {D D' : DataW Unit} {ve : Value} {L : List Tno} {tu be bh : Nat} (h : Tm4 B W gt gm n D ve L tu be bh) (ho : OmI W' gm n' D') (g : W.grownBy W' (some gm)) : Tm4 B W' gt gm n' D' ve L tu be bh := by
  have hs := h.bel.size
  have hz := g.size
  refine ⟨(g.block _ (lt_heap h.row) fun c => h.ne (by cases c; rfl)).trans h.row, ho, h.own.of_block fun k hk => g.block _ (h.own.lt k hk) fun c => (h.be k hk).2.2 (by cases c; rfl), ⟨g.os.trans h.bel.os, g.tape.trans h.bel.tape, g.output.trans h.bel.output, by omega, fun k hk => (g.block k (by omega) fun c => ?_).trans (h.bel.block k hk)⟩, h.bt, h.bm, h.ne, h.be⟩
  have := h.bm
  cases c
  omega
/-- A list in the place of the one that there was. -/
theorem Tm4.setL {B W W' : World} {gt gm n : Nat} {D : DataW Unit} {ve : Value} {L : List Tno} {tu be bh : Nat} (h : Tm4 B W gt gm n D ve L tu be bh) {v' : Value} {L' : List Tno} (on : Onto W W' ve v') (ho : OX KNo W' v' L') : W'.heap[gt]? = some (.cells (trA gm ve tu be bh) 145 (0, 0)) ∧ Tm4 B (W'.setCell ⟨gt, 1, none⟩ v') gt gm n D v' L' tu be bh := by
  have g := on.grown
  have hs := h.bel.size
  have hz := g.size
  have blk : ∀ k, k < W.heap.size → ve.ownBlock ≠ some k → W'.heap[k]? = W.heap[k]? := fun k hk hn => g.block k hk (fun e => hn e.symm)
  have hrow : W'.heap[gt]? = some (.cells (trA gm ve tu be bh) 145 (0, 0)) := (blk gt (lt_heap h.row) fun e => (h.be gt e).2.1 rfl).trans h.row
  have hb : ∀ k, k ≠ gt → (W'.setCell ⟨gt, 1, none⟩ v').heap[k]? = W'.heap[k]? := fun k hk => Below.heap_setCell _ _ _ _ hk
  have hsz : (W'.setCell ⟨gt, 1, none⟩ v').heap.size = W'.heap.size := by simp [World.setCell]
  have hv : ∀ k, v'.ownBlock = some k → B.heap.size ≤ k ∧ k ≠ gt ∧ k ≠ gm := fun k hk => by
    rcases on.lies with e | ⟨c, e, hc⟩
    · exact h.be k (by rw [← e]; exact hk)
    · rw [e] at hk
      cases hk
      have h1 := lt_heap h.row
      have h2 := h.map.lt
      exact ⟨by omega, by omega, by omega⟩
  refine ⟨hrow, ⟨heap_setCell_same W' gt 1 _ _ v' hrow, ?_, ho.of_block fun k hk => hb k (hv k hk).2.1, ?_, h.bt, h.bm, h.ne, hv⟩⟩
  · exact h.map.of_block ((hb gm (Ne.symm h.ne)).trans (blk gm h.map.lt fun e => (h.be gm e).2.2 rfl))
  · have hx := h.bt
    exact ⟨g.os.trans h.bel.os, g.tape.trans h.bel.tape, g.output.trans h.bel.output, by rw [hsz]; omega, fun k hk => (hb k (by omega)).trans ((blk k (by omega) fun e => by have := (h.be k e).1; omega).trans (h.bel.block k hk))⟩
/-- A node that is hung on a place. -/
def newNo (L : List Tno) (k : Nat) (hk : k < L.length) (l : List UInt8) (hl : l.length = 32) (x : Hd) (own anc : Nat) : Tno := ⟨l, x, L[k].ht + 1, L.length, L[k].wk + own, false, false, false, 0, k, anc, 0, L[k].yo, hl⟩
theorem bld_pub (i : List UInt8) (hi : i.length = 32) (h : Hd) (a b k : Nat) (W : World) : (Instr.build 53 #[(0, .agg (hc i)), (1, .agg h.cells.toArray), (2, .int .i64 (a : Int)), (3, .int .i64 (b : Int)), (4, .agg (wn k))]).run Tryz.prog W = .ok (.agg (⟨i, h, a, b, k, false, false, false, 0, 0, 0, 0, 0, hi⟩ : Tno).pub.toArray) W := by
  obtain ⟨ve, p, r, t, q, o, hp, hr⟩ := h
  obtain ⟨_, _, _, _, _, _, _, _, _, _, _, _, _, _, _, _, _, _, _, _, _, _, _, _, _, _, _, _, _, _, _, _, rfl⟩ := id32' i hi
  obtain ⟨_, _, _, _, _, _, _, _, _, _, _, _, _, _, _, _, _, _, _, _, _, _, _, _, _, _, _, _, _, _, _, _, rfl⟩ := id32' p hp
  obtain ⟨_, _, _, _, _, _, _, _, _, _, _, _, _, _, _, _, _, _, _, _, _, _, _, _, _, _, _, _, _, _, _, _, rfl⟩ := id32' r hr
  kernel_rfl
theorem bld_node (i : List UInt8) (hi : i.length = 32) (h : Hd) (a b k c d e : Nat) (W : World) : (Instr.build 142 #[(0, .agg (⟨i, h, a, b, k, false, false, false, 0, 0, 0, 0, 0, hi⟩ : Tno).pub.toArray), (1, .int .i64 (c : Int)), (2, .int .i64 (d : Int)), (4, .int .i64 (e : Int))]).run Tryz.prog W = .ok (.agg (⟨i, h, a, b, k, false, false, false, 0, c, d, 0, e, hi⟩ : Tno).cells.toArray) W := by
  obtain ⟨ve, p, r, t, q, o, hp, hr⟩ := h
  obtain ⟨_, _, _, _, _, _, _, _, _, _, _, _, _, _, _, _, _, _, _, _, _, _, _, _, _, _, _, _, _, _, _, _, rfl⟩ := id32' i hi
  obtain ⟨_, _, _, _, _, _, _, _, _, _, _, _, _, _, _, _, _, _, _, _, _, _, _, _, _, _, _, _, _, _, _, _, rfl⟩ := id32' p hp
  obtain ⟨_, _, _, _, _, _, _, _, _, _, _, _, _, _, _, _, _, _, _, _, _, _, _, _, _, _, _, _, _, _, _, _, rfl⟩ := id32' r hr
  kernel_rfl
section
set_option maxRecDepth 10000
set_option maxHeartbeats 4000000
theorem skip1 (w : World) : Calls Tryz.prog 247 #[.int .i64 1] w fun e w' => e = .returned (.int .i64 0) ∧ w' = w := by
  go_enter Tryz.func247, Tryz.ntmps247
  go_wp2
  go_ret
  exact ⟨rfl, rfl⟩
end
end Go.Proofs.YtofddbjnncgmlaaGreatDoor
namespace Go.Proofs.YtofddbjnncgmlaaGreatDoor
open Go.RowKit
open Go.Deep
set_option linter.unusedVariables false
set_option linter.unusedSimpArgs false
theorem lk_sets {w W : World} (b : Below w.heap.size w W) (g o : Nat) (vs : List Value) (hg : w.heap.size ≤ g) : Below w.heap.size w (W.setCells g o vs) := by
  have r := Rfr.setCells g vs o W
  exact ⟨r.os.trans b.os, r.tape.trans b.tape, r.output.trans b.output, Nat.le_trans b.size r.size, fun k hk => (r.block k (Nat.lt_of_lt_of_le hk b.size) (by omega)).trans (b.block k hk)⟩
/-- The row that is changed, and the one that is made out of it. -/
structure Lin (w W : World) (vi vh : Value) (A B : List Hd) : Prop where
  i : OX KHe W vi A
  h : OX KHr2 W vh B
  ne : ∀ g g', vi.ownBlock = some g → vh.ownBlock = some g' → g ≠ g'
  nb : ∀ g, vi.ownBlock = some g → w.heap.size ≤ g
  hb : ∀ g, vh.ownBlock = some g → w.heap.size ≤ g
  bel : Below w.heap.size w W
section
variable {w W W' : World} {vi vh vh' : Value} {A B : List Hd}
theorem Lin.next (j : Lin w W vi vh A B) (b : Below W.heap.size W W') : Lin w W' vi vh A B := ⟨j.i.below b, j.h.below b, j.ne, j.nb, j.hb, below_next j.bel b⟩
/-- One more is put behind the second row. -/
theorem Lin.grow (j : Lin w W vi vh A B) {B' : List Hd} (on : Onto W W' vh vh') (ho : OX KHr2 W' vh' B') : Lin w W' vi vh' A B' := by
  have b := on.below j.bel.size j.hb
  refine ⟨j.i.of_block fun g hg => on.grown.block g (j.i.lt g hg) (fun e => j.ne g g hg e.symm rfl), ho, fun g g' hg hg' e => ?_, j.nb, on.far j.bel.size j.hb, j.bel.trans b⟩
  subst e
  rcases on.lies with l | ⟨q, hq, hl⟩
  · rw [l] at hg'
    exact j.ne g g hg hg' rfl
  · rw [hq] at hg'
    cases hg'
    exact absurd (j.i.lt _ hg) (by omega)
end
section
variable {w W : World} {g c : Nat} {vh : Value} {A B : List Hd}
/-- Cells of an element of the first row are written anew. -/
theorem Lin.setM (j : Lin w W (.slice (some ⟨g, 0, none⟩) A.length c) vh A B) (k : Nat) (hk : k < A.length) (x : Hd) (o : Nat) (Y : List Value) (ho : o + Y.length ≤ 68) (hx : x.cells = spl A[k].cells o Y) : Lin w (W.setCells g (k * 68 + o) Y) (.slice (some ⟨g, 0, none⟩) A.length c) vh (A.set k x) B := by
  have n1 := j.nb g rfl
  have n2 : ∀ i, i < W.heap.size → i ≠ g → (W.setCells g (k * 68 + o) Y).heap[i]? = W.heap[i]? := fun i hi hne => (Rfr.setCells g Y (k * 68 + o) W).block i hi hne
  refine ⟨OX.setM (E := KHe) j.i k hk x o Y ho hx, j.h.of_block fun q hq => n2 q (j.h.lt q hq) (fun e => j.ne g q rfl hq e.symm), j.ne, j.nb, j.hb, ?_⟩
  exact lk_sets j.bel g _ _ n1
theorem Lin.setC (j : Lin w W (.slice (some ⟨g, 0, none⟩) A.length c) vh A B) (k : Nat) (hk : k < A.length) (x : Hd) (o : Nat) (ho : o < 68) (v : Value) (hx : x.cells = A[k].cells.set o v) : Lin w (W.setCell ⟨g, k * 68 + o, none⟩ v) (.slice (some ⟨g, 0, none⟩) A.length c) vh (A.set k x) B := by
  have n1 := j.nb g rfl
  refine ⟨OX.setC (E := KHe) j.i k hk x o ho v hx, j.h.of_block fun q hq => Below.heap_setCell _ _ _ _ (fun e => j.ne g q rfl hq e.symm), j.ne, j.nb, j.hb, j.bel.setCell n1 _⟩
end
end Go.Proofs.YtofddbjnncgmlaaGreatDoor
namespace Go.Proofs.YtofddbjnncgmlaaGreatDoor
open Go.RowKit
open Go.Deep
open Go.Lib
set_option linter.unusedVariables false
set_option linter.unusedSimpArgs false
section
variable {α : Type} {E : Ek α} {w W : World} {v x : Value} {L N : List α}
theorem OX.cut {g n cap : Nat} (h : OX E w (.slice (some ⟨g, 0, none⟩) n cap) L) (k : Nat) (hk : k ≤ L.length) : OX E w (.slice (some ⟨g, 0, none⟩) k cap) (L.take k) := by
  have hl : (L.take k).length = k := by rw [List.length_take]; omega
  obtain ⟨h1, h2⟩ := h
  refine ⟨by rw [flatE_len], .inr ?_⟩
  rcases h2 with ⟨h0, _⟩ | ⟨g', cap', cur, hv, hbg, hg, hnc, hcm, hcs, htake⟩
  · cases h0
  · cases hv
    refine ⟨g, cap, cur, by rw [hl], hbg, hg, by omega, hcm, hcs, ?_⟩
    have e : flatE E L = flatE E (L.take k) ++ flatE E (L.drop k) := by rw [← flatE_app, List.take_append_drop]
    have := congrArg (List.take ((L.take k).length * E.k)) htake
    rw [List.take_take, e, List.take_left' (flatE_len E _)] at this
    rw [Nat.min_eq_left (Nat.mul_le_mul_right _ (by omega))] at this
    exact this
theorem Ek.sizeE (E : Ek α) (W : World) : (sizeOf E.e).run Tryz.prog W = .ok E.k W := by
  obtain ⟨i, z, hi, _, _, hs, _⟩ := E.parts
  simp [sizeOf, typeInfo, hi, hs, Result.andThen]
theorem Ek.cutF (E : Ek α) (ao : Option Addr) (n c k : Nat) (hk : k ≤ n) (hc : n ≤ c) (W : World) : (Instr.sliceAt E.t (.slice ao n c) none (some (.int .i64 (k : Int))) none).run Tryz.prog W = .ok (.slice ao k c) W := by
  have h1 := E.sizeE W
  have hi : k ≤ c := by omega
  have ha : ∀ a : Addr, a.add 0 = a := fun a => by cases a; unfold Addr.add; split <;> simp_all
  cases ao <;> simp [Instr.sliceAt, Instr.slice, run_underlying E.sl, Instr.sliceBounds, Instr.sliceBound, asIntOf, hi, Result.andThen, h1, ha]
theorem Ek.appL {ty : TypeId} (hown : OX E w v L) (hx : LX E w x N) (hsm : (L.length + N.length) * E.b ≤ 140737488355328) (h63 : L.length + N.length ≤ maxLen) :
    ∃ v' w', (Builtin.append_ #[E.t, E.t] ty #[v, x]).run Tryz.prog w = .ok v' w' ∧ OX E w' v' (L ++ N) ∧ Onto w w' v v' := by
  obtain ⟨ao, c, rfl⟩ := hx.form
  cases ao with
  | some ad => exact E.app hown ad N.length c N rfl hx.news hsm h63
  | none =>
    have hN : N = [] := by
      rcases Nat.eq_zero_or_pos N.length with h | h
      · exact List.eq_nil_of_length_eq_zero h
      · obtain ⟨_, _, e⟩ := hx.base h
        cases e
    subst hN
    refine ⟨v, w, ?_, by rw [List.append_nil]; exact hown, Onto.refl w v⟩
    obtain ⟨bo, m, rfl⟩ := hown.form
    have hm : L.length ≤ m := by
      obtain ⟨_, _, e, h2, _⟩ := hown.read
      cases e
      exact h2
    have h1 := E.sizeE w
    have hst : ∀ a : Addr, (storeCells a []).run Tryz.prog w = .ok () w := fun a => by simp [storeCells]
    cases bo <;> simp [Builtin.append_, run_underlying E.sl, h1, Builtin.lenOf, Builtin.firstCells, hm, Result.andThen, hst]
end
section
variable {α : Type} {w : World} {ops : Array Oper} {rest : List Oper} {o : Oper} {a : Act} {Q : Exit → Act → World → Prop}
theorem Ek.wpAppL (E : Ek α) (hgd : o.guard = none) (x y : Operand)
    (ho : o.op = .call { callee := .builtin .append, args := #[x, y], argTypes := #[E.t, E.t] })
    (v : Value) (L : List α) (hx : a.eval x = v) (hown : OX E w v L) (u : Value) (N : List α) (hy : a.eval y = u) (hu : LX E w u N) (hsm : (L.length + N.length) * E.b ≤ 140737488355328) (h63 : L.length + N.length ≤ maxLen)
    (h : ∀ v' w', OX E w' v' (L ++ N) → Onto w w' v v' → wpList Tryz.prog ops Q rest (a.put o.dst v') w') :
    wpList Tryz.prog ops Q (o :: rest) a w := by
  refine wpList_plain hgd fun K hK => ?_
  obtain ⟨v', w', hr, h2, h3⟩ := E.appL (ty := o.type) hown hu hsm h63
  unfold Oper.wp execOp
  simp only [ho, resolve, invoke, builtin, Sem.run_bind, Sem.run_pure, Result.andThen_ok, List.map_toArray, List.map_cons, List.map_nil, hx, hy, hr]
  exact hK _ _ (h v' w' h2 h3)
end
end Go.Proofs.YtofddbjnncgmlaaGreatDoor
namespace Go.Proofs.YtofddbjnncgmlaaGreatDoor
open Go.RowKit
open Go.Deep
set_option linter.unusedVariables false
set_option linter.unusedSimpArgs false
theorem OX.there {α : Type} {E : Ek α} {W : World} {g c : Nat} {L : List α} (h : OX E W (.slice (some ⟨g, 0, none⟩) L.length c) L) (k : Nat) (hk : k < L.length) (o n : Nat) (hn : o + n ≤ E.k) : W.there g (k * E.k + o) n := fun j hj => by
  obtain ⟨hl, ⟨e, _⟩ | ⟨g', cap, cur, e, hb, hh, h1, h2, h3, h4⟩⟩ := h
  · cases e
  · cases e
    refine ⟨?_, frozen_of_row W g _ _ _ hh⟩
    have hp : (k + 1) * E.k ≤ cur.size := by
      rw [h3]
      exact Nat.mul_le_mul_right _ (Nat.le_trans hk h1)
    rw [Nat.succ_mul] at hp
    rw [cell_of_row _ _ _ _ _ _ hh, Array.getElem?_eq_getElem (by omega)]
    rfl
/-- The first k are changed already. -/
def mxL {α : Type} (P A : List α) (k : Nat) : List α := P.take k ++ A.drop k
section
variable {α : Type} {P A : List α}
theorem mxL_len (h : P.length = A.length) (k : Nat) (hk : k ≤ A.length) : (mxL P A k).length = A.length := by
  unfold mxL
  rw [List.length_append, List.length_take, List.length_drop]
  omega
theorem mxL_zero : mxL P A 0 = A := by simp [mxL]
theorem mxL_end (h : P.length = A.length) : mxL P A A.length = P := by
  unfold mxL
  rw [List.drop_length, List.append_nil, List.take_of_length_le (by omega)]
theorem mxL_get (h : P.length = A.length) (k : Nat) (hk : k ≤ A.length) (i : Nat) : (mxL P A k)[i]? = if i < k then P[i]? else A[i]? := by
  unfold mxL
  rw [List.getElem?_append, List.length_take, Nat.min_eq_left (by omega)]
  by_cases h1 : i < k
  · rw [if_pos h1, if_pos h1, List.getElem?_take_of_lt h1]
  · rw [if_neg h1, if_neg h1, List.getElem?_drop]
    congr 1
    omega
theorem mxL_at (h : P.length = A.length) (k : Nat) (hk : k < A.length) : (mxL P A k)[k]'(by rw [mxL_len h k (by omega)]; exact hk) = A[k] := by
  apply Option.some.inj
  rw [← List.getElem?_eq_getElem, ← List.getElem?_eq_getElem, mxL_get h k (by omega), if_neg (by omega)]
theorem mxL_set (h : P.length = A.length) (k : Nat) (hk : k < A.length) (x : α) (hx : P[k]? = some x) : (mxL P A k).set k x = mxL P A (k + 1) := by
  refine List.ext_getElem? fun i => ?_
  rw [List.getElem?_set, mxL_len h k (by omega), mxL_get h k (by omega), mxL_get h (k + 1) (by omega)]
  by_cases e : k = i
  · subst e
    rw [if_pos rfl, if_pos hk, if_pos (by omega), hx]
  · rw [if_neg e]
    by_cases h1 : i < k
    · rw [if_pos h1, if_pos (by omega)]
    · rw [if_neg h1, if_neg (by omega)]
end
section
variable {w W : World} {g c n k : Nat} {vh : Value} {C B : List Hd} {y : Hd}
theorem Lin.re0 (j : Lin w W (.slice (some ⟨g, 0, none⟩) n c) vh C B) (h : C[k]? = some y) : Lin w W (.slice (some ⟨g, 0, none⟩) n c) vh (C.set k y) B := by
  obtain ⟨h1, h2⟩ := List.getElem?_eq_some_iff.1 h
  subst h2
  rw [List.set_getElem_self]
  exact j
theorem Lin.reM (j : Lin w W (.slice (some ⟨g, 0, none⟩) n c) vh (C.set k y) B) (hn : C.length = n) (hk : k < n) (y' : Hd) (o : Nat) (Y : List Value) (ho : o + Y.length ≤ 68) (hx : y'.cells = spl y.cells o Y) : Lin w (W.setCells g (k * 68 + o) Y) (.slice (some ⟨g, 0, none⟩) n c) vh (C.set k y') B := by
  subst hn
  have e : C.length = (C.set k y).length := by rw [List.length_set]
  have := Lin.setM (A := C.set k y) (by rw [← e]; exact j) k (by rw [← e]; exact hk) y' o Y ho (by rw [List.getElem_set_self]; exact hx)
  rw [← e, List.set_set] at this
  exact this
theorem Lin.reC (j : Lin w W (.slice (some ⟨g, 0, none⟩) n c) vh (C.set k y) B) (hn : C.length = n) (hk : k < n) (y' : Hd) (o : Nat) (ho : o < 68) (v : Value) (hx : y'.cells = y.cells.set o v) : Lin w (W.setCell ⟨g, k * 68 + o, none⟩ v) (.slice (some ⟨g, 0, none⟩) n c) vh (C.set k y') B := by
  subst hn
  have e : C.length = (C.set k y).length := by rw [List.length_set]
  have := Lin.setC (A := C.set k y) (by rw [← e]; exact j) k (by rw [← e]; exact hk) y' o ho v (by rw [List.getElem_set_self]; exact hx)
  rw [← e, List.set_set] at this
  exact this
theorem Lin.reT (j : Lin w W (.slice (some ⟨g, 0, none⟩) n c) vh (C.set k y) B) (hn : C.length = n) (hk : k < n) (o m : Nat) (hm : o + m ≤ 68) : W.there g (k * 68 + o) m := by
  subst hn
  have e : C.length = (C.set k y).length := by rw [List.length_set]
  exact OX.there (E := KHe) (L := C.set k y) (by rw [← e]; exact j.i) k (by rw [← e]; exact hk) o m hm
theorem Lin.reQ (j : Lin w W (.slice (some ⟨g, 0, none⟩) n c) vh C B) (i : Nat) {q : Hd} (h : C[i]? = some q) : W.rangeAt g (i * 68) q.cells := by
  obtain ⟨h1, h2⟩ := List.getElem?_eq_some_iff.1 h
  have := LX.range (E := KHe) j.i.read i h1
  rw [h2, Nat.zero_add] at this
  exact this
theorem Lin.reR (j : Lin w W (.slice (some ⟨g, 0, none⟩) n c) vh (C.set k y) B) (hn : C.length = n) (hk : k < n) : W.rangeAt g (k * 68) y.cells := j.reQ k (by rw [List.getElem?_set_self (by omega)])
end
end Go.Proofs.YtofddbjnncgmlaaGreatDoor
namespace Go.Proofs.YtofddbjnncgmlaaGreatDoor
/-- The level above a level of marks. -/
def upM (l : List Bool) : List Bool := (List.range ((l.length + 1) / 2)).map fun i => l.getD (2 * i) false || l.getD (2 * i + 1) false
theorem upM_len (l : List Bool) : (upM l).length = (l.length + 1) / 2 := by simp [upM]
theorem upM_at (l : List Bool) (p : Nat) : (upM l).getD p false = (l.getD (2 * p) false || l.getD (2 * p + 1) false) := by
  by_cases h : p < (l.length + 1) / 2
  · simp [upM, List.getD_eq_getElem?_getD, h]
  · have h1 : l.getD (2 * p) false = false := by rw [List.getD_eq_getElem?_getD, List.getElem?_eq_none (by omega)]; rfl
    have h2 : l.getD (2 * p + 1) false = false := by rw [List.getD_eq_getElem?_getD, List.getElem?_eq_none (by omega)]; rfl
    rw [h1, h2, List.getD_eq_getElem?_getD, List.getElem?_eq_none (by rw [upM_len]; omega)]
    rfl
/-- The levels of marks. -/
def mv (ms : List Bool) : Nat → List Bool
  | 0 => ms
  | k + 1 => upM (mv ms k)
/-- Is something meant beneath a position? -/
def mn (ms : List Bool) (k p : Nat) : Bool := (List.range (2 ^ k)).any fun i => ms.getD (p * 2 ^ k + i) false
theorem mn_step (ms : List Bool) (k p : Nat) : mn ms (k + 1) p = (mn ms k (2 * p) || mn ms k (2 * p + 1)) := by
  unfold mn
  rw [Bool.eq_iff_iff, Bool.or_eq_true, List.any_eq_true, List.any_eq_true, List.any_eq_true]
  have e : p * 2 ^ (k + 1) = 2 * p * 2 ^ k := by rw [Nat.pow_succ', ← Nat.mul_assoc, Nat.mul_comm p 2]
  have e2 : (2 * p + 1) * 2 ^ k = 2 * p * 2 ^ k + 2 ^ k := by rw [Nat.add_mul, Nat.one_mul]
  have e3 : 2 ^ (k + 1) = 2 ^ k + 2 ^ k := by rw [Nat.pow_succ]; omega
  rw [e, e2, e3]
  constructor
  · rintro ⟨i, hi, h⟩
    rw [List.mem_range] at hi
    by_cases hl : i < 2 ^ k
    · exact .inl ⟨i, List.mem_range.2 hl, h⟩
    · refine .inr ⟨i - 2 ^ k, List.mem_range.2 (by omega), ?_⟩
      rw [show 2 * p * 2 ^ k + 2 ^ k + (i - 2 ^ k) = 2 * p * 2 ^ k + i by omega]
      exact h
  · rintro (⟨i, hi, h⟩ | ⟨i, hi, h⟩)
    · exact ⟨i, List.mem_range.2 (by have := List.mem_range.1 hi; omega), h⟩
    · refine ⟨2 ^ k + i, List.mem_range.2 (by have := List.mem_range.1 hi; omega), ?_⟩
      rw [← Nat.add_assoc]
      exact h
theorem mv_mn (ms : List Bool) : ∀ k p, (mv ms k).getD p false = mn ms k p
  | 0, p => by simp [mv, mn, List.range_succ]
  | k + 1, p => by rw [mv, upM_at, mv_mn ms k, mv_mn ms k, mn_step]
theorem mv_len (ms : List Bool) (L : List (List UInt8)) (h : ms.length = L.length) : ∀ k, (mv ms k).length = (lv L k).length
  | 0 => h
  | k + 1 => by rw [mv, upM_len, mv_len ms L h k, lv, nxt_len]
/-- What is told of a position, and of all beneath it. -/
def tl (ms : List Bool) (L : List (List UInt8)) : Nat → Nat → List Bool × List (List UInt8)
  | 0, p => ([mn ms 0 p], [ia (lv L 0) p])
  | k + 1, p =>
    if mn ms (k + 1) p then
      (true :: ((tl ms L k (2 * p)).1 ++ if 2 * p + 1 < (lv L k).length then (tl ms L k (2 * p + 1)).1 else []),
        (tl ms L k (2 * p)).2 ++ if 2 * p + 1 < (lv L k).length then (tl ms L k (2 * p + 1)).2 else [])
    else ([false], [ia (lv L (k + 1)) p])
/-- What a tree in parts reads as, from a position down: the id; what is left of its bits and ids; the meant places and ids. -/
structure Rd where
  id : List UInt8
  bits : List Bool
  ids : List (List UInt8)
  places : List Nat
  meant : List (List UInt8)
def rd (n : Nat) : Nat → Nat → List Bool → List (List UInt8) → Option Rd
  | _, _, [], _ => none
  | 0, _, _ :: _, [] => none
  | 0, p, b :: bs, x :: is => some ⟨x, bs, is, if b then [p] else [], if b then [x] else []⟩
  | _ + 1, _, false :: _, [] => none
  | _ + 1, _, false :: bs, x :: is => some ⟨x, bs, is, [], []⟩
  | k + 1, p, true :: bs, is =>
    match rd n k (2 * p) bs is with
    | none => none
    | some a =>
      if 2 * p + 1 < wdt n k then
        match rd n k (2 * p + 1) a.bits a.ids with
        | none => none
        | some b => if a.id = b.id then none else some ⟨pr a.id b.id, b.bits, b.ids, a.places ++ b.places, a.meant ++ b.meant⟩
      else some ⟨pr a.id a.id, a.bits, a.ids, a.places, a.meant⟩
end Go.Proofs.YtofddbjnncgmlaaGreatDoor
namespace Go.Proofs.YtofddbjnncgmlaaGreatDoor
open Go.RowKit
open Go.Deep
/-- A slice that holds marks. -/
def LB (w : World) (v : Value) (ms : List Bool) : Prop := ∃ ao cap, v = .slice ao ms.length cap ∧ ms.length ≤ cap ∧ ∀ i, i < ms.length → ∃ g off, ao = some ⟨g, off, none⟩ ∧ g < w.heap.size ∧ w.cell? ⟨g, off + i, none⟩ = some (.bool (ms.getD i false))
theorem LB.below {w W : World} {v : Value} {ms : List Bool} (h : LB w v ms) (hb : Below w.heap.size w W) : LB W v ms := by
  obtain ⟨ao, cap, rfl, h2, h3⟩ := h
  refine ⟨ao, cap, rfl, h2, fun i hi => ?_⟩
  obtain ⟨g, off, e, hg, hr⟩ := h3 i hi
  exact ⟨g, off, e, Nat.lt_of_lt_of_le hg hb.size, (hb.cell (p := ⟨g, off + i, none⟩) hg).trans hr⟩
theorem LB.form {w : World} {v : Value} {ms : List Bool} (h : LB w v ms) : ∃ ao cap, v = .slice ao ms.length cap ∧ ms.length ≤ cap := by
  obtain ⟨ao, cap, e, h2, _⟩ := h
  exact ⟨ao, cap, e, h2⟩
theorem LB.base {w : World} {ao : Option Addr} {n cap : Nat} {ms : List Bool} (h : LB w (.slice ao n cap) ms) (h0 : 0 < ms.length) : ∃ g off, ao = some ⟨g, off, none⟩ := by
  obtain ⟨_, _, e, _, h3⟩ := h
  injection e with e1
  obtain ⟨g, off, e2, _⟩ := h3 0 h0
  exact ⟨g, off, e1.trans e2⟩
theorem LB.cell {w : World} {g off n cap : Nat} {ms : List Bool} (h : LB w (.slice (some ⟨g, off, none⟩) n cap) ms) (i : Nat) (hi : i < ms.length) : w.cell? ⟨g, off + i, none⟩ = some (.bool (ms.getD i false)) := by
  obtain ⟨_, _, e, _, h3⟩ := h
  injection e with e1
  subst e1
  obtain ⟨g', off', e2, _, hc⟩ := h3 i hi
  cases e2
  exact hc
theorem mn_true (ms : List Bool) (k p i : Nat) (h1 : p * 2 ^ k ≤ i) (h2 : i < (p + 1) * 2 ^ k) (h : ms.getD i false = true) : mn ms k p = true := by
  unfold mn
  rw [List.any_eq_true]
  rw [Nat.add_mul, Nat.one_mul] at h2
  exact ⟨i - p * 2 ^ k, List.mem_range.2 (by omega), by rw [show p * 2 ^ k + (i - p * 2 ^ k) = i by omega]; exact h⟩
theorem mn_false (ms : List Bool) (k p : Nat) (h : ∀ i, p * 2 ^ k ≤ i → i < (p + 1) * 2 ^ k → ms.getD i false = false) : mn ms k p = false := by
  unfold mn
  rw [List.any_eq_false]
  intro i hi
  have := List.mem_range.1 hi
  rw [h (p * 2 ^ k + i) (by omega) (by rw [Nat.add_mul, Nat.one_mul]; omega)]
  decide
section
set_option maxRecDepth 10000
set_option maxHeartbeats 4000000
end
end Go.Proofs.YtofddbjnncgmlaaGreatDoor
