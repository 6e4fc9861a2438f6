/- The document's reader in memory: its own copy, and its answers' places. -/
import Derived.Test.YthlaibkdcebekaaDoorNy
namespace Go.Proofs.YthlaibkdcebekaaDoor
open Go.RowKit
open Go.Deep
/-- The cells of the document's reader. -/
def r8 (n : Nat) (vb vi : Value) (b i : Nat) (vp vm : Value) (wr : Bool) : Array Value := #[.int .i64 (n : Int), vb, vi, .int .i64 (b : Int), .int .i64 (i : Int), vp, vm, .bool wr]
def z8 : Array Value := #[.int .i64 0, .slice none 0 0, .slice none 0 0, .int .i64 0, .int .i64 0, .slice none 0 0, .slice none 0 0, .bool false]
theorem A8 : Arr 68 8 z8 := ⟨.inr ⟨_, Tryd.underlying68⟩, by kernel_rfl, fun w => by kernel_rfl, fun w => by kernel_rfl, rfl⟩
/-- A cell of a row of eight, by its place. -/
def at8 (c : Array Value) (i : Nat) : Value := c.getD i undef
theorem row8 {W : World} {g : Nat} {t : TypeId} {c : Array Value} (hc : c.size = 8) : W.rowIs g t 8 (at8 c) ↔ W.heap[g]? = some (.cells c t (0, 0)) := by
  constructor
  · rintro ⟨d, hd, hs, hf⟩
    rw [hd]
    congr 2
    refine Array.ext (by omega) fun i h1 h2 => ?_
    have := hf i (by omega)
    rw [Array.getElem?_eq_getElem h1] at this
    injection this with this
    rw [this, at8]
    simp [h2]
  · intro h
    refine ⟨c, h, hc, fun i hi => ?_⟩
    rw [at8, Array.getElem?_eq_getElem (by omega)]
    simp [show i < c.size by omega]
/-- What was met: lists made behind B. -/
structure Es (B W : World) (vp vm : Value) (ps : List Nat) (ms : List (List UInt8)) : Prop where
  bel : Below B.heap.size B W
  pl : OI W vp ps
  pfar : ∀ g, vp.ownBlock = some g → B.heap.size ≤ g
  mt : OH 38 W vm ms
  mfar : ∀ g, vm.ownBlock = some g → B.heap.size ≤ g
/-- The document's reader, while its read runs: its copy at g3, its answers' places at g6 and g7. -/
structure Dm (B W0 : World) (vp0 vm0 : Value) (g3 g6 g7 n : Nat) (vb vi : Value) (W : World) (b i : Nat) (vp vm : Value) (wr : Bool) (ps : List Nat) (ms : List (List UInt8)) : Prop extends Es B W vp vm ps ms where
  on : On2 W0 W vp0 vm0 vp vm
  s0 : B.heap.size ≤ W0.heap.size
  h3 : W0.heap.size ≤ g3
  h6 : W0.heap.size ≤ g6
  h7 : W0.heap.size ≤ g7
  r3 : W.heap[g3]? = some (.cells (r8 n vb vi b i vp vm wr) 68 (0, 0))
  r6 : W.heap[g6]? = some (.cells z8 68 (0, 0))
  r7 : W.heap[g7]? = some (.cells (hc zeros) 38 (0, 0))
  n36 : g3 ≠ g6
  m7 : vm.ownBlock ≠ some g7
section
variable {W W' : World} {v : Value} {g : Nat} {c : Array Value} {ns : List Nat} {L : List (List UInt8)}
theorem oi_blk {t : TypeId} (o : OI W v ns) (r : W.heap[g]? = some (.cells c t (0, 0))) (ht : t ≠ 3) : v.ownBlock ≠ some g := fun e => by
  rcases o.2 with ⟨rfl, _⟩ | ⟨g1, cap, cur, rfl, _, hg, _⟩
  · cases e
  · cases e
    rw [hg] at r
    injection r with r
    injection r with _ e2
    exact ht e2.symm
theorem oh_blk {t : TypeId} (o : OH 38 W v L) (r : W.heap[g]? = some (.cells c t (0, 0))) (ht : t ≠ 38) : v.ownBlock ≠ some g := fun e => by
  rcases o.2.2 with ⟨rfl, _⟩ | ⟨g1, cap, cur, rfl, _, hg, _⟩
  · cases e
  · cases e
    rw [hg] at r
    injection r with r
    injection r with _ e2
    exact ht e2.symm
theorem oi_oh {v' : Value} (o : OI W v ns) (p : OH 38 W v' L) : ∀ g, v.ownBlock = some g → v'.ownBlock ≠ some g := fun g h1 h2 => by
  rcases o.2 with ⟨rfl, _⟩ | ⟨g1, cap, cur, rfl, _, hg, _⟩
  · cases h1
  · rcases p.2.2 with ⟨rfl, _⟩ | ⟨g2, cap2, cur2, rfl, _, hg2, _⟩
    · cases h2
    · cases h1
      cases h2
      rw [hg] at hg2
      injection hg2 with hg2
      injection hg2 with _ e2
      exact absurd e2 (by decide)
/-- A cell of a row of eight is set. -/
theorem set8 {t : TypeId} (h : W.heap[g]? = some (.cells c t (0, 0))) (hc : c.size = 8) (j : Nat) (u : Value) (d : Array Value) (hd : d.size = 8) (hcd : ∀ x, x < 8 → (if x = j then u else at8 c x) = at8 d x) : (W.setCell ⟨g, j, none⟩ u).heap[g]? = some (.cells d t (0, 0)) := by
  refine (row8 hd).1 ((World.rowIs.set ((row8 hc).2 h) j u).congr fun x hx => ?_)
  have := hcd x hx
  rw [← this]
theorem On2.setRow {W0 : World} {a b a1 b1 : Value} (h : On2 W0 W a b a1 b1) (hg : W0.heap.size ≤ g) (cs : Array Value) : On2 W0 (W.setRow g cs) a b a1 b1 :=
  ⟨h.os, h.tape, h.output, by simpa using h.size, fun k hk ha hb => (setRow_other _ _ _ _ (by omega)).trans (h.block k hk ha hb), h.na, h.nb⟩
end
section
variable {B W0 W W' : World} {vp0 vm0 vb vi vp vm v' vp' vm' : Value} {g3 g6 g7 n b i b' i' : Nat} {wr wr' : Bool} {ps ps' : List Nat} {ms ms' : List (List UInt8)}
theorem Es.next (e : Es B W vp vm ps ms) (h : Below W.heap.size W W') : Es B W' vp vm ps ms := ⟨below_next e.bel h, e.pl.below h, e.pfar, e.mt.below h, e.mfar⟩
theorem Es.kept (e : Es B W vp vm ps ms) (hb : Below B.heap.size B W') (h1 : ∀ g, vp.ownBlock = some g → W'.heap[g]? = W.heap[g]?) (h2 : ∀ g, vm.ownBlock = some g → W'.heap[g]? = W.heap[g]?) : Es B W' vp vm ps ms :=
  ⟨hb, e.pl.of_block h1, e.pfar, e.mt.of_block h2, e.mfar⟩
theorem Dm.next (D : Dm B W0 vp0 vm0 g3 g6 g7 n vb vi W b i vp vm wr ps ms) (h : Below W.heap.size W W') : Dm B W0 vp0 vm0 g3 g6 g7 n vb vi W' b i vp vm wr ps ms :=
  ⟨D.toEs.next h, D.on.trans (On2.of_below h _ _), D.s0, D.h3, D.h6, D.h7, (h.block _ (lt_heap D.r3)).trans D.r3, (h.block _ (lt_heap D.r6)).trans D.r6, (h.block _ (lt_heap D.r7)).trans D.r7, D.n36, D.m7⟩
theorem Dm.n37 (D : Dm B W0 vp0 vm0 g3 g6 g7 n vb vi W b i vp vm wr ps ms) : g3 ≠ g7 := fun e => by
  have h := D.r3
  rw [e, D.r7] at h
  injection h with h
  injection h with _ h
  exact absurd h (by decide)
theorem Dm.n67 (D : Dm B W0 vp0 vm0 g3 g6 g7 n vb vi W b i vp vm wr ps ms) : g6 ≠ g7 := fun e => by
  have h := D.r6
  rw [e, D.r7] at h
  injection h with h
  injection h with _ h
  exact absurd h (by decide)
/-- A cell of its copy is set. -/
theorem Dm.cell (D : Dm B W0 vp0 vm0 g3 g6 g7 n vb vi W b i vp vm wr ps ms) (j : Nat) (u : Value) (hcd : ∀ x, x < 8 → (if x = j then u else at8 (r8 n vb vi b i vp vm wr) x) = at8 (r8 n vb vi b' i' vp vm wr') x) : Dm B W0 vp0 vm0 g3 g6 g7 n vb vi (W.setCell ⟨g3, j, none⟩ u) b' i' vp vm wr' ps ms :=
  ⟨D.toEs.kept (D.bel.setCell (Nat.le_trans D.s0 D.h3) _) (fun g hg => Below.heap_setCell _ _ _ _ (fun e => oi_blk D.pl D.r3 (by decide) (hg.trans (congrArg some e)))) (fun g hg => Below.heap_setCell _ _ _ _ (fun e => oh_blk D.mt D.r3 (by decide) (hg.trans (congrArg some e)))),
    D.on.setCell (p := ⟨g3, j, none⟩) D.h3 _, D.s0, D.h3, D.h6, D.h7, set8 D.r3 rfl j u _ rfl hcd, (Below.heap_setCell _ _ _ _ (Ne.symm D.n36)).trans D.r6, (Below.heap_setCell _ _ _ _ (Ne.symm D.n37)).trans D.r7, D.n36, D.m7⟩
theorem Dm.setB (D : Dm B W0 vp0 vm0 g3 g6 g7 n vb vi W b i vp vm wr ps ms) (b' : Nat) : Dm B W0 vp0 vm0 g3 g6 g7 n vb vi (W.setCell ⟨g3, 3, none⟩ (.int .i64 (b' : Int))) b' i vp vm wr ps ms :=
  D.cell 3 _ (fun x hx => by
    have : x = 0 ∨ x = 1 ∨ x = 2 ∨ x = 3 ∨ x = 4 ∨ x = 5 ∨ x = 6 ∨ x = 7 := by omega
    rcases this with rfl | rfl | rfl | rfl | rfl | rfl | rfl | rfl <;> rfl)
theorem Dm.setI (D : Dm B W0 vp0 vm0 g3 g6 g7 n vb vi W b i vp vm wr ps ms) (i' : Nat) : Dm B W0 vp0 vm0 g3 g6 g7 n vb vi (W.setCell ⟨g3, 4, none⟩ (.int .i64 (i' : Int))) b i' vp vm wr ps ms :=
  D.cell 4 _ (fun x hx => by
    have : x = 0 ∨ x = 1 ∨ x = 2 ∨ x = 3 ∨ x = 4 ∨ x = 5 ∨ x = 6 ∨ x = 7 := by omega
    rcases this with rfl | rfl | rfl | rfl | rfl | rfl | rfl | rfl <;> rfl)
theorem Dm.setW (D : Dm B W0 vp0 vm0 g3 g6 g7 n vb vi W b i vp vm wr ps ms) (wr' : Bool) : Dm B W0 vp0 vm0 g3 g6 g7 n vb vi (W.setCell ⟨g3, 7, none⟩ (.bool wr')) b i vp vm wr' ps ms :=
  D.cell 7 _ (fun x hx => by
    have : x = 0 ∨ x = 1 ∨ x = 2 ∨ x = 3 ∨ x = 4 ∨ x = 5 ∨ x = 6 ∨ x = 7 := by omega
    rcases this with rfl | rfl | rfl | rfl | rfl | rfl | rfl | rfl <;> rfl)
/-- A place more. -/
theorem Dm.place (D : Dm B W0 vp0 vm0 g3 g6 g7 n vb vi W b i vp vm wr ps ms) (o : OI W' v' ps') (h : Onto W W' vp v') : Dm B W0 vp0 vm0 g3 g6 g7 n vb vi (W'.setCell ⟨g3, 5, none⟩ v') b i v' vm wr ps' ms := by
  have k3 : W'.heap[g3]? = _ := (h.grown.block _ (lt_heap D.r3) (fun e => oi_blk D.pl D.r3 (by decide) e.symm)).trans D.r3
  have k6 : W'.heap[g6]? = _ := (h.grown.block _ (lt_heap D.r6) (fun e => oi_blk D.pl D.r6 (by decide) e.symm)).trans D.r6
  have k7 : W'.heap[g7]? = _ := (h.grown.block _ (lt_heap D.r7) (fun e => oi_blk D.pl D.r7 (by decide) e.symm)).trans D.r7
  have mt' : OH 38 W' vm ms := D.mt.of_block fun g hg => h.grown.block g (D.mt.lt g hg) (fun e => oi_oh D.pl D.mt g e.symm hg)
  refine ⟨⟨(D.bel.trans (h.below D.bel.size D.pfar)).setCell (Nat.le_trans D.s0 D.h3) _, o.of_block (fun g hg => Below.heap_setCell _ _ _ _ (fun e => oi_blk o k3 (by decide) (hg.trans (congrArg some e)))), h.far D.bel.size D.pfar, mt'.of_block (fun g hg => Below.heap_setCell _ _ _ _ (fun e => oh_blk mt' k3 (by decide) (hg.trans (congrArg some e)))), D.mfar⟩,
    (D.on.trans (On2.ontoA h _)).setCell (p := ⟨g3, 5, none⟩) D.h3 _, D.s0, D.h3, D.h6, D.h7, set8 k3 rfl 5 _ _ rfl (fun x hx => ?_), (Below.heap_setCell _ _ _ _ (Ne.symm D.n36)).trans k6, (Below.heap_setCell _ _ _ _ (Ne.symm D.n37)).trans k7, D.n36, D.m7⟩
  have : x = 0 ∨ x = 1 ∨ x = 2 ∨ x = 3 ∨ x = 4 ∨ x = 5 ∨ x = 6 ∨ x = 7 := by omega
  rcases this with rfl | rfl | rfl | rfl | rfl | rfl | rfl | rfl <;> rfl
/-- A meant id more. -/
theorem Dm.meant (D : Dm B W0 vp0 vm0 g3 g6 g7 n vb vi W b i vp vm wr ps ms) (o : OH 38 W' v' ms') (h : Onto W W' vm v') : Dm B W0 vp0 vm0 g3 g6 g7 n vb vi (W'.setCell ⟨g3, 6, none⟩ v') b i vp v' wr ps ms' := by
  have k3 : W'.heap[g3]? = _ := (h.grown.block _ (lt_heap D.r3) (fun e => oh_blk D.mt D.r3 (by decide) e.symm)).trans D.r3
  have k6 : W'.heap[g6]? = _ := (h.grown.block _ (lt_heap D.r6) (fun e => oh_blk D.mt D.r6 (by decide) e.symm)).trans D.r6
  have k7 : W'.heap[g7]? = _ := (h.grown.block _ (lt_heap D.r7) (fun e => D.m7 e.symm)).trans D.r7
  have pl' : OI W' vp ps := D.pl.of_block fun g hg => h.grown.block g (D.pl.lt g hg) (fun e => oi_oh D.pl D.mt g hg e.symm)
  have hl : Nw2 W vm v' := h.lies
  refine ⟨⟨(D.bel.trans (h.below D.bel.size D.mfar)).setCell (Nat.le_trans D.s0 D.h3) _, pl'.of_block (fun g hg => Below.heap_setCell _ _ _ _ (fun e => oi_blk pl' k3 (by decide) (hg.trans (congrArg some e)))), D.pfar, o.of_block (fun g hg => Below.heap_setCell _ _ _ _ (fun e => oh_blk o k3 (by decide) (hg.trans (congrArg some e)))), h.far D.bel.size D.mfar⟩,
    (D.on.trans (On2.ontoB h _)).setCell (p := ⟨g3, 6, none⟩) D.h3 _, D.s0, D.h3, D.h6, D.h7, set8 k3 rfl 6 _ _ rfl (fun x hx => ?_), (Below.heap_setCell _ _ _ _ (Ne.symm D.n36)).trans k6, (Below.heap_setCell _ _ _ _ (Ne.symm D.n37)).trans k7, D.n36, hl.not (lt_heap D.r7) D.m7⟩
  have : x = 0 ∨ x = 1 ∨ x = 2 ∨ x = 3 ∨ x = 4 ∨ x = 5 ∨ x = 6 ∨ x = 7 := by omega
  rcases this with rfl | rfl | rfl | rfl | rfl | rfl | rfl | rfl <;> rfl
/-- Another block of the caller's stays over a call. -/
theorem On2.keep {a b a1 b1 : Value} (o : On2 W W' a b a1 b1) {g : Nat} {ob : Obj} (h : W.heap[g]? = some ob) (na : a.ownBlock ≠ some g) (nb : b.ownBlock ≠ some g) : W'.heap[g]? = some ob := (o.block g (lt_heap h) na nb).trans h
/-- What a call leaves of it: all but its lists. -/
theorem Dm.over (D : Dm B W0 vp0 vm0 g3 g6 g7 n vb vi W b i vp vm wr ps ms) (o : On2 W W' vp vm vp' vm') : W'.heap[g3]? = some (.cells (r8 n vb vi b i vp vm wr) 68 (0, 0)) ∧ W'.heap[g6]? = some (.cells z8 68 (0, 0)) ∧ W'.heap[g7]? = some (.cells (hc zeros) 38 (0, 0)) ∧ vm'.ownBlock ≠ some g7 :=
  ⟨o.keep D.r3 (oi_blk D.pl D.r3 (by decide)) (oh_blk D.mt D.r3 (by decide)), o.keep D.r6 (oi_blk D.pl D.r6 (by decide)) (oh_blk D.mt D.r6 (by decide)), o.keep D.r7 (oi_blk D.pl D.r7 (by decide)) D.m7, o.nb.not (lt_heap D.r7) D.m7⟩
/-- The answer of a call is laid in the copy. -/
theorem Dm.call (D : Dm B W0 vp0 vm0 g3 g6 g7 n vb vi W b i vp vm wr ps ms) (o : On2 W W' vp vm vp' vm') (e : Es B W' vp' vm' ps' ms') : Dm B W0 vp0 vm0 g3 g6 g7 n vb vi (W'.setRow g3 (r8 n vb vi b' i' vp' vm' wr')) b' i' vp' vm' wr' ps' ms' := by
  obtain ⟨k3, k6, k7, m7⟩ := D.over o
  exact ⟨e.kept (below_setRow e.bel (Nat.le_trans D.s0 D.h3) _) (fun g hg => setRow_other _ _ _ _ (fun x => oi_blk e.pl k3 (by decide) (hg.trans (congrArg some x)))) (fun g hg => setRow_other _ _ _ _ (fun x => oh_blk e.mt k3 (by decide) (hg.trans (congrArg some x)))),
    (D.on.trans o).setRow D.h3 _, D.s0, D.h3, D.h6, D.h7, setRow_heap _ _ _ _ _ _ k3, (setRow_other _ _ _ _ (Ne.symm D.n36)).trans k6, (setRow_other _ _ _ _ (Ne.symm D.n37)).trans k7, D.n36, m7⟩
/-- The answers are laid. -/
theorem Dm.fin (D : Dm B W0 vp0 vm0 g3 g6 g7 n vb vi W b i vp vm wr ps ms) (id : List UInt8) : ((W.setRow g6 (r8 n vb vi b i vp vm wr)).setRow g7 (hc id)).heap[g6]? = some (.cells (r8 n vb vi b i vp vm wr) 68 (0, 0)) ∧ ((W.setRow g6 (r8 n vb vi b i vp vm wr)).setRow g7 (hc id)).heap[g7]? = some (.cells (hc id) 38 (0, 0)) ∧
    Es B ((W.setRow g6 (r8 n vb vi b i vp vm wr)).setRow g7 (hc id)) vp vm ps ms ∧ On2 W0 ((W.setRow g6 (r8 n vb vi b i vp vm wr)).setRow g7 (hc id)) vp0 vm0 vp vm := by
  have k6 := setRow_heap W g6 _ (r8 n vb vi b i vp vm wr) _ _ D.r6
  have k7 : (W.setRow g6 (r8 n vb vi b i vp vm wr)).heap[g7]? = _ := (setRow_other _ _ _ _ (Ne.symm D.n67)).trans D.r7
  refine ⟨(setRow_other _ _ _ _ D.n67).trans k6, setRow_heap _ _ _ _ _ _ k7, D.toEs.kept (below_setRow (below_setRow D.bel (Nat.le_trans D.s0 D.h6) _) (Nat.le_trans D.s0 D.h7) _) (fun g hg => (setRow_other _ _ _ _ (fun x => oi_blk D.pl D.r7 (by decide) (hg.trans (congrArg some x)))).trans (setRow_other _ _ _ _ (fun x => oi_blk D.pl D.r6 (by decide) (hg.trans (congrArg some x))))) (fun g hg => (setRow_other _ _ _ _ (fun x => D.m7 (hg.trans (congrArg some x)))).trans (setRow_other _ _ _ _ (fun x => oh_blk D.mt D.r6 (by decide) (hg.trans (congrArg some x))))), (D.on.setRow D.h6 _).setRow D.h7 _⟩
end
end Go.Proofs.YthlaibkdcebekaaDoor
