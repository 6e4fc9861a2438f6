/- What the document's part holds: its own copy of what was told, and its answer's place. What a call leaves that may append to two lists: all blocks but theirs are as they were. The contract of the document's part. The contract of the document's Part. -/
import Derived.Test.YthlaibkdcebekaaDoorNgb
namespace Go.Proofs.YthlaibkdcebekaaDoor
open Go.RowKit
open Go.Deep
/-- The cells of what was told. -/
def pc (n : Nat) (vb vi : Value) (i : Nat) : Value := if i = 0 then .int .i64 (n : Int) else if i = 1 then vb else vi
/-- What was told, as a value: lists made behind B. -/
structure Ps (B W : World) (vb vi : Value) (bs : List Bool) (is : List (List UInt8)) : Prop where
  bel : Below B.heap.size B W
  bits : OB W vb bs
  bfar : ∀ g, vb.ownBlock = some g → B.heap.size ≤ g
  ids : OH 38 W vi is
  ifar : ∀ g, vi.ownBlock = some g → B.heap.size ≤ g
/-- .. and in its place at block gt, with an answer's place at block gh. -/
structure Us (B W : World) (gt gh : Nat) (n : Nat) (vb vi : Value) (bs : List Bool) (is : List (List UInt8)) : Prop extends Ps B W vb vi bs is where
  tfar : B.heap.size ≤ gt
  hfar : B.heap.size ≤ gh
  ne : gt ≠ gh
  row : W.rowIs gt 33 3 (pc n vb vi)
  res : W.rowIs gh 33 3 (pc 0 (.slice none 0 0) (.slice none 0 0))
section
variable {B W W' : World} {gt gh n : Nat} {vb vi v' : Value} {bs bs' : List Bool} {is is' : List (List UInt8)}
theorem ob_not {f : Nat → Value} (o : OB W vb bs) (r : W.rowIs gt 33 3 f) : vb.ownBlock ≠ some gt := fun e => by
  rcases o.2 with ⟨rfl, _⟩ | ⟨g1, cap, cur, rfl, _, hg, _⟩
  · cases e
  · cases e
    obtain ⟨c, hc, _⟩ := r
    rw [hg] at hc
    injection hc with hc
    injection hc with _ e2
    exact absurd e2 (by decide)
theorem oh_not {f : Nat → Value} (o : OH 38 W vi is) (r : W.rowIs gt 33 3 f) : vi.ownBlock ≠ some gt := fun e => by
  rcases o.2.2 with ⟨rfl, _⟩ | ⟨g1, cap, cur, rfl, _, hg, _⟩
  · cases e
  · cases e
    obtain ⟨c, hc, _⟩ := r
    rw [hg] at hc
    injection hc with hc
    injection hc with _ e2
    exact absurd e2 (by decide)
theorem Ps.bi (j : Ps B W vb vi bs is) : ∀ g, vb.ownBlock = some g → vi.ownBlock ≠ some g := fun g h1 h2 => by
  rcases j.bits.2 with ⟨rfl, _⟩ | ⟨g1, cap, cur, rfl, _, hg, _⟩
  · cases h1
  · rcases j.ids.2.2 with ⟨rfl, _⟩ | ⟨g2, cap2, cur2, rfl, _, hg2, _⟩
    · cases h2
    · cases h1
      cases h2
      rw [hg] at hg2
      injection hg2 with hg2
      injection hg2 with _ e2
      exact absurd e2 (by decide)
theorem Ps.next (j : Ps B W vb vi bs is) (h : Below W.heap.size W W') : Ps B W' vb vi bs is :=
  ⟨below_next j.bel h, j.bits.below h, j.bfar, j.ids.below h, j.ifar⟩
theorem Us.next (j : Us B W gt gh n vb vi bs is) (h : Below W.heap.size W W') : Us B W' gt gh n vb vi bs is :=
  ⟨j.toPs.next h, j.tfar, j.hfar, j.ne, World.rowIs.of_block j.row (h.block _ (World.rowIs.lt j.row)), World.rowIs.of_block j.res (h.block _ (World.rowIs.lt j.res))⟩
theorem Us.rowB (j : Us B W gt gh n vb vi bs is) (h : Onto W W' vb v') : W'.rowIs gt 33 3 (pc n vb vi) :=
  World.rowIs.of_block j.row (h.grown.block _ (World.rowIs.lt j.row) (fun e => ob_not j.bits j.row e.symm))
theorem Us.resB (j : Us B W gt gh n vb vi bs is) (h : Onto W W' vb v') : W'.rowIs gh 33 3 (pc 0 (.slice none 0 0) (.slice none 0 0)) :=
  World.rowIs.of_block j.res (h.grown.block _ (World.rowIs.lt j.res) (fun e => ob_not j.bits j.res e.symm))
theorem Us.rowI (j : Us B W gt gh n vb vi bs is) (h : Onto W W' vi v') : W'.rowIs gt 33 3 (pc n vb vi) :=
  World.rowIs.of_block j.row (h.grown.block _ (World.rowIs.lt j.row) (fun e => oh_not j.ids j.row e.symm))
theorem Us.resI (j : Us B W gt gh n vb vi bs is) (h : Onto W W' vi v') : W'.rowIs gh 33 3 (pc 0 (.slice none 0 0) (.slice none 0 0)) :=
  World.rowIs.of_block j.res (h.grown.block _ (World.rowIs.lt j.res) (fun e => oh_not j.ids j.res e.symm))
/-- A bit more: the append, then the store of its list. -/
theorem Us.bit (j : Us B W gt gh n vb vi bs is) (o : OB W' v' bs') (h : Onto W W' vb v') : Us B (W'.setCell ⟨gt, 1, none⟩ v') gt gh n v' vi bs' is := by
  have hr := j.rowB h
  have hs := j.resB h
  refine ⟨⟨(j.bel.trans (h.below j.bel.size j.bfar)).setCell j.tfar _, o.of_block (fun g hg => Below.heap_setCell _ _ _ _ (fun e => ob_not o hr (hg.trans (congrArg some e)))), h.far j.bel.size j.bfar, (j.ids.of_block fun g hg => h.grown.block g (j.ids.lt g hg) (fun e => j.bi g e.symm hg)).of_block (fun g hg => Below.heap_setCell _ _ _ _ (fun e => oh_not j.ids j.row (hg.trans (congrArg some e)))), j.ifar⟩, j.tfar, j.hfar, j.ne, (World.rowIs.set hr 1 v').congr (fun i hi => ?_), World.rowIs.of_block hs (Below.heap_setCell _ _ _ _ (Ne.symm j.ne))⟩
  have : i = 0 ∨ i = 1 ∨ i = 2 := by omega
  rcases this with rfl | rfl | rfl <;> simp [pc]
/-- An id more. -/
theorem Us.idm (j : Us B W gt gh n vb vi bs is) (o : OH 38 W' v' is') (h : Onto W W' vi v') : Us B (W'.setCell ⟨gt, 2, none⟩ v') gt gh n vb v' bs is' := by
  have hr := j.rowI h
  have hs := j.resI h
  refine ⟨⟨(j.bel.trans (h.below j.bel.size j.ifar)).setCell j.tfar _, (j.bits.of_block fun g hg => h.grown.block g (j.bits.lt g hg) (fun e => j.bi g hg e.symm)).of_block (fun g hg => Below.heap_setCell _ _ _ _ (fun e => ob_not j.bits j.row (hg.trans (congrArg some e)))), j.bfar, o.of_block (fun g hg => Below.heap_setCell _ _ _ _ (fun e => oh_not o hr (hg.trans (congrArg some e)))), h.far j.bel.size j.ifar⟩, j.tfar, j.hfar, j.ne, (World.rowIs.set hr 2 v').congr (fun i hi => ?_), World.rowIs.of_block hs (Below.heap_setCell _ _ _ _ (Ne.symm j.ne))⟩
  have : i = 0 ∨ i = 1 ∨ i = 2 := by omega
  rcases this with rfl | rfl | rfl <;> simp [pc]
/-- The whole of it told anew (the answer of a call), by three stores. -/
theorem Us.anew {vb2 vi2 : Value} {bs2 : List Bool} {is2 : List (List UInt8)} (j : Us B W gt gh n vb vi bs is) (k : Ps B W vb2 vi2 bs2 is2) : Us B (((W.setCell ⟨gt, 0, none⟩ (.int .i64 (n : Int))).setCell ⟨gt, 1, none⟩ vb2).setCell ⟨gt, 2, none⟩ vi2) gt gh n vb2 vi2 bs2 is2 := by
  have hb : ∀ g, g ≠ gt → (((W.setCell ⟨gt, 0, none⟩ (.int .i64 (n : Int))).setCell ⟨gt, 1, none⟩ vb2).setCell ⟨gt, 2, none⟩ vi2).heap[g]? = W.heap[g]? := fun g h => by
    rw [Below.heap_setCell _ _ _ _ h, Below.heap_setCell _ _ _ _ h, Below.heap_setCell _ _ _ _ h]
  refine ⟨⟨((j.bel.setCell j.tfar _).setCell j.tfar _).setCell j.tfar _, k.bits.of_block (fun g hg => hb g (fun e => ob_not k.bits j.row (hg.trans (congrArg some e)))), k.bfar, k.ids.of_block (fun g hg => hb g (fun e => oh_not k.ids j.row (hg.trans (congrArg some e)))), k.ifar⟩, j.tfar, j.hfar, j.ne, (World.rowIs.set (World.rowIs.set (World.rowIs.set j.row 0 _) 1 _) 2 _).congr (fun i hi => ?_), World.rowIs.of_block j.res (hb gh (Ne.symm j.ne))⟩
  have : i = 0 ∨ i = 1 ∨ i = 2 := by omega
  rcases this with rfl | rfl | rfl <;> simp [pc]
end
end Go.Proofs.YthlaibkdcebekaaDoor
namespace Go.Proofs.YthlaibkdcebekaaDoor
open Go.RowKit
open Go.Deep
/-- A list's block is the one that it was, or a new one. -/
def Nw2 (W : World) (a a' : Value) : Prop := a'.ownBlock = a.ownBlock ∨ ∃ g, a'.ownBlock = some g ∧ W.heap.size ≤ g
theorem Nw2.refl (W : World) (a : Value) : Nw2 W a a := .inl rfl
theorem Nw2.trans {W W1 : World} {a a1 a2 : Value} (h : Nw2 W a a1) (hs : W.heap.size ≤ W1.heap.size) (k : Nw2 W1 a1 a2) : Nw2 W a a2 := by
  rcases k with k | ⟨g, k, hg⟩
  · rcases h with h | ⟨g, h, hg⟩
    · exact .inl (k.trans h)
    · exact .inr ⟨g, k.trans h, hg⟩
  · exact .inr ⟨g, k, Nat.le_trans hs hg⟩
structure On2 (W W' : World) (a b a' b' : Value) : Prop where
  os : W'.os = W.os
  tape : W'.tape = W.tape
  output : W'.output = W.output
  size : W.heap.size ≤ W'.heap.size
  block : ∀ k, k < W.heap.size → a.ownBlock ≠ some k → b.ownBlock ≠ some k → W'.heap[k]? = W.heap[k]?
  na : Nw2 W a a'
  nb : Nw2 W b b'
section
variable {W W1 W2 : World} {a b a1 b1 a2 b2 v : Value}
theorem On2.refl (W : World) (a b : Value) : On2 W W a b a b := ⟨rfl, rfl, rfl, Nat.le_refl _, fun _ _ _ _ => rfl, .inl rfl, .inl rfl⟩
theorem On2.trans (h : On2 W W1 a b a1 b1) (k : On2 W1 W2 a1 b1 a2 b2) : On2 W W2 a b a2 b2 := by
  refine ⟨k.os.trans h.os, k.tape.trans h.tape, k.output.trans h.output, Nat.le_trans h.size k.size, fun i hi ha hb => ?_, h.na.trans h.size k.na, h.nb.trans h.size k.nb⟩
  have na1 : a1.ownBlock ≠ some i := fun e => by
    rcases h.na with h1 | ⟨g, h1, hg⟩
    · exact ha (h1.symm.trans e)
    · rw [h1] at e
      injection e with e
      omega
  have nb1 : b1.ownBlock ≠ some i := fun e => by
    rcases h.nb with h1 | ⟨g, h1, hg⟩
    · exact hb (h1.symm.trans e)
    · rw [h1] at e
      injection e with e
      omega
  exact (k.block i (Nat.lt_of_lt_of_le hi h.size) na1 nb1).trans (h.block i hi ha hb)
theorem On2.of_below (h : Below W.heap.size W W1) (a b : Value) : On2 W W1 a b a b := ⟨h.os, h.tape, h.output, h.size, fun k hk _ _ => h.block k hk, .inl rfl, .inl rfl⟩
theorem On2.ontoA (h : Onto W W1 a a1) (b : Value) : On2 W W1 a b a1 b :=
  ⟨h.grown.os, h.grown.tape, h.grown.output, h.grown.size, fun k hk ha _ => h.grown.block k hk (fun e => ha e.symm), h.lies, .inl rfl⟩
theorem On2.ontoB (h : Onto W W1 b b1) (a : Value) : On2 W W1 a b a b1 :=
  ⟨h.grown.os, h.grown.tape, h.grown.output, h.grown.size, fun k hk _ hb => h.grown.block k hk (fun e => hb e.symm), .inl rfl, h.lies⟩
/-- A store into a block that is new since W. -/
theorem On2.setCell (h : On2 W W1 a b a1 b1) {p : Addr} (hp : W.heap.size ≤ p.block) (u : Value) : On2 W (W1.setCell p u) a b a1 b1 :=
  ⟨h.os, h.tape, h.output, by simpa [World.setCell] using h.size, fun k hk ha hb => (Below.heap_setCell _ _ _ _ (by omega)).trans (h.block k hk ha hb), h.na, h.nb⟩
/-- A row of another's that is no such list's stays. -/
theorem On2.row (h : On2 W W1 a b a1 b1) {g n : Nat} {t : TypeId} {f : Nat → Value} (hr : W.rowIs g t n f) (ha : a.ownBlock ≠ some g) (hb : b.ownBlock ≠ some g) : W1.rowIs g t n f :=
  World.rowIs.of_block hr (h.block g (World.rowIs.lt hr) ha hb)
end
end Go.Proofs.YthlaibkdcebekaaDoor
namespace Go.Proofs.YthlaibkdcebekaaDoor
open Go.RowKit
open Go.Deep
section
variable {B W W0 W4 : World} {gt gh n : Nat} {vb vi a b vb2 vi2 : Value} {bs bs2 : List Bool} {is is2 : List (List UInt8)}
/-- The whole of it told anew, whatever was told. -/
theorem Us.again (row : W.rowIs gt 33 3 (pc n a b)) (res : W.rowIs gh 33 3 (pc 0 (.slice none 0 0) (.slice none 0 0))) (tfar : B.heap.size ≤ gt) (hfar : B.heap.size ≤ gh) (ne : gt ≠ gh) (k : Ps B W vb2 vi2 bs2 is2) : Us B (((W.setCell ⟨gt, 0, none⟩ (.int .i64 (n : Int))).setCell ⟨gt, 1, none⟩ vb2).setCell ⟨gt, 2, none⟩ vi2) gt gh n vb2 vi2 bs2 is2 := by
  have hb : ∀ g, g ≠ gt → (((W.setCell ⟨gt, 0, none⟩ (.int .i64 (n : Int))).setCell ⟨gt, 1, none⟩ vb2).setCell ⟨gt, 2, none⟩ vi2).heap[g]? = W.heap[g]? := fun g h => by
    rw [Below.heap_setCell _ _ _ _ h, Below.heap_setCell _ _ _ _ h, Below.heap_setCell _ _ _ _ h]
  refine ⟨⟨((k.bel.setCell tfar _).setCell tfar _).setCell tfar _, k.bits.of_block (fun g hg => hb g (fun e => ob_not k.bits row (hg.trans (congrArg some e)))), k.bfar, k.ids.of_block (fun g hg => hb g (fun e => oh_not k.ids row (hg.trans (congrArg some e)))), k.ifar⟩, tfar, hfar, ne, (World.rowIs.set (World.rowIs.set (World.rowIs.set row 0 _) 1 _) 2 _).congr (fun i hi => ?_), World.rowIs.of_block res (hb gh (Ne.symm ne))⟩
  have : i = 0 ∨ i = 1 ∨ i = 2 := by omega
  rcases this with rfl | rfl | rfl <;> simp [pc]
/-- The answer is laid in its place. -/
theorem Us.told (j : Us B W gt gh n vb2 vi2 bs is) (on : On2 W0 W vb vi vb2 vi2) (hg : W0.heap.size ≤ gh) : (((W.setCell ⟨gh, 0, none⟩ (.int .i64 (n : Int))).setCell ⟨gh, 1, none⟩ vb2).setCell ⟨gh, 2, none⟩ vi2).cell? ⟨gh, 0, none⟩ = some (.int .i64 (n : Int)) ∧ (((W.setCell ⟨gh, 0, none⟩ (.int .i64 (n : Int))).setCell ⟨gh, 1, none⟩ vb2).setCell ⟨gh, 2, none⟩ vi2).cell? ⟨gh, 1, none⟩ = some vb2 ∧ (((W.setCell ⟨gh, 0, none⟩ (.int .i64 (n : Int))).setCell ⟨gh, 1, none⟩ vb2).setCell ⟨gh, 2, none⟩ vi2).cell? ⟨gh, 2, none⟩ = some vi2 ∧
    Ps B (((W.setCell ⟨gh, 0, none⟩ (.int .i64 (n : Int))).setCell ⟨gh, 1, none⟩ vb2).setCell ⟨gh, 2, none⟩ vi2) vb2 vi2 bs is ∧ On2 W0 (((W.setCell ⟨gh, 0, none⟩ (.int .i64 (n : Int))).setCell ⟨gh, 1, none⟩ vb2).setCell ⟨gh, 2, none⟩ vi2) vb vi vb2 vi2 := by
  have hb : ∀ g, g ≠ gh → (((W.setCell ⟨gh, 0, none⟩ (.int .i64 (n : Int))).setCell ⟨gh, 1, none⟩ vb2).setCell ⟨gh, 2, none⟩ vi2).heap[g]? = W.heap[g]? := fun g h => by
    rw [Below.heap_setCell _ _ _ _ h, Below.heap_setCell _ _ _ _ h, Below.heap_setCell _ _ _ _ h]
  have hr := World.rowIs.set (World.rowIs.set (World.rowIs.set j.res 0 (.int .i64 (n : Int))) 1 vb2) 2 vi2
  refine ⟨(World.rowIs.cell hr (i := 0) (by decide)).trans rfl, (World.rowIs.cell hr (i := 1) (by decide)).trans rfl, (World.rowIs.cell hr (i := 2) (by decide)).trans rfl, ⟨((j.bel.setCell j.hfar _).setCell j.hfar _).setCell j.hfar _, j.bits.of_block (fun g hg => hb g (fun e => ob_not j.bits j.res (hg.trans (congrArg some e)))), j.bfar, j.ids.of_block (fun g hg => hb g (fun e => oh_not j.ids j.res (hg.trans (congrArg some e)))), j.ifar⟩, ((on.setCell (p := ⟨gh, 0, none⟩) hg _).setCell (p := ⟨gh, 1, none⟩) hg _).setCell (p := ⟨gh, 2, none⟩) hg _⟩
end
/-- What the document's part does at a level and a place. -/
def RTold (B : World) (v0 vm : Value) (ms : List Bool) (L : List (List UInt8)) (n k p : Nat) : Prop :=
  ∀ (vb vi : Value) (bs : List Bool) (is : List (List UInt8)) (W : World), Ps B W vb vi bs is → bs.length + 2 ^ (k + 1) ≤ 1000000 → is.length + 2 ^ (k + 1) ≤ 1000000 →
    Calls Tryd.prog 23 #[.agg #[.int .i64 (n : Int), vb, vi], v0, vm, .int .i64 (k : Int), .int .i64 (p : Int)] W fun e w' => ∃ vb' vi', e = .returned (.agg #[.int .i64 (n : Int), vb', vi']) ∧ Ps B w' vb' vi' (bs ++ (tl ms L k p).1) (is ++ (tl ms L k p).2) ∧ On2 W w' vb vi vb' vi'
section
set_option maxRecDepth 10000
set_option maxHeartbeats 4000000
theorem rpart_step {B : World} {v0 vm : Value} {ms : List Bool} {L : List (List UInt8)} {N n : Nat} (T : ∃ g c, v0 = .slice (some ⟨g, 0, none⟩) N c ∧ ∀ i, i < N → ∃ x, g < B.heap.size ∧ B.cell? ⟨g, i, none⟩ = some x ∧ LH B x (lv L i)) (M : LB B vm ms) (hms : ms.length = L.length) (hn : L.length ≤ 300) (K p : Nat) (hk : K < N) (hN : N ≤ 10) (hp : p < (lv L K).length) (hp3 : p ≤ 300)
    (IH : ∀ k, K = k + 1 → ∀ q, q < (lv L k).length → RTold B v0 vm ms L n k q) : RTold B v0 vm ms L n K p := by
  intro vb vi bs is W J hb1 hb2
  obtain ⟨g0, c0, rfl, H0⟩ := T
  obtain ⟨am, cm, rfl, _⟩ := M.form
  obtain ⟨ab, cb, rfl⟩ := J.bits.form
  obtain ⟨ai, ci, rfl⟩ := J.ids.form
  have hB1 : Below W.heap.size W ((W.alloc (.cells #[.int .i64 (n : Int), .slice ab bs.length cb, .slice ai is.length ci] 33)).alloc (.cells #[.int .i64 0, .slice none 0 0, .slice none 0 0] 33)) := ((Below.refl _ _).alloc (Nat.le_refl _) _).alloc (by simp) _
  have U1 : Hid (Us B ((W.alloc (.cells #[.int .i64 (n : Int), .slice ab bs.length cb, .slice ai is.length ci] 33)).alloc (.cells #[.int .i64 0, .slice none 0 0, .slice none 0 0] 33)) W.heap.size (W.heap.size + 1) n (.slice ab bs.length cb) (.slice ai is.length ci) bs is) := by
    have hs := J.bel.size
    have e1 := heap_alloc_last W (.cells #[.int .i64 (n : Int), .slice ab bs.length cb, .slice ai is.length ci] 33)
    have e2 := heap_alloc_last (W.alloc (.cells #[.int .i64 (n : Int), .slice ab bs.length cb, .slice ai is.length ci] 33)) (.cells #[.int .i64 0, .slice none 0 0, .slice none 0 0] 33)
    have sz : (W.alloc (.cells #[.int .i64 (n : Int), .slice ab bs.length cb, .slice ai is.length ci] 33)).heap.size = W.heap.size + 1 := by simp
    rw [sz] at e2
    refine ⟨J.next hB1, hs, by omega, by omega, row_of (n := 3) rfl ((Below.heap_alloc _ _ _ (by omega)).trans e1) (fun i hi => ?_), row_of (n := 3) rfl e2 (fun i hi => ?_)⟩
    · have : i = 0 ∨ i = 1 ∨ i = 2 := by omega
      rcases this with rfl | rfl | rfl <;> rfl
    · have : i = 0 ∨ i = 1 ∨ i = 2 := by omega
      rcases this with rfl | rfl | rfl <;> rfl
  have O1 := hide (On2.of_below hB1 (.slice ab bs.length cb) (.slice ai is.length ci))
  have HM := hide fun X hX => rmeant_any (.slice am ms.length cm) ms K p X (M.below hX) (by omega) hp3 (by omega)
  have HIH := hide IH
  have HNN := hide (And.intro hk (And.intro hp (And.intro hb1 hb2)))
  have HH0 := hide H0
  have HP3 := hide (And.intro hN hp3)
  have hpw : 0 < 2 ^ (K + 1) := Nat.pos_of_ne_zero (by simp)
  have SZ := hide (show bs.length ≤ 1000000 by omega)
  clear J IH hk hp hb1 hb2 M H0 hms hN hp3 hpw hB1 hn
  generalize hmm : mn ms K p = mm at *
  have HMM := hide hmm
  clear hmm
  go_enter Tryd.func23, Tryd.ntmps23
  go_upto_region 1 with fail
  generalize (W.alloc (.cells #[.int .i64 (n : Int), .slice ab bs.length cb, .slice ai is.length ci] 33)).alloc (.cells #[.int .i64 0, .slice none 0 0, .slice none 0 0] 33) = W1 at *
  generalize hgh : W.heap.size + 1 = gh at *
  generalize hgt : W.heap.size = gt at *
  have HW : Hid (W.heap.size ≤ gt ∧ W.heap.size ≤ gh) := by
    constructor <;> omega
  have x1 := World.rowIs.cell U1.out.row (i := 1) (by decide)
  rw [show pc n (.slice ab bs.length cb) (.slice ai is.length ci) 1 = .slice ab bs.length cb from rfl] at x1
  have J1 := hide (U1.out.next ((Below.refl _ _).alloc (Nat.le_refl _) (.cells #[.bool mm] 4)))
  have O1b : Hid (On2 W (W1.alloc (.cells #[.bool mm] 4)) (.slice ab bs.length cb) (.slice ai is.length ci) (.slice ab bs.length cb) (.slice ai is.length ci)) := O1.out.trans (On2.of_below ((Below.refl _ _).alloc (Nat.le_refl _) _) _ _)
  have C1 : Hid ((W1.alloc (.cells #[.bool mm] 4)).cell? ⟨W1.heap.size, 0, none⟩ = some (.bool mm)) := by
    show _ = _
    rw [cell_of_row _ _ _ _ _ _ (heap_alloc_last W1 _)]
    rfl
  have HM1 := hide (HM.out _ U1.out.bel)
  clear HM
  go_upto_region 3 with (first | (go_at_call 36; refine HM1.out.mono ?_; rintro e w2 ⟨rfl, hw⟩; subst w2) | (at_builtin; refine OB.wpApp rfl _ _ rfl rfl J1.out.bits ⟨W1.heap.size, 0, none⟩ rfl mm C1.out SZ.out ?_; intro vb' W' ob on; obtain ⟨aob, cob, rfl⟩ := ob.form; have f3 := World.rowIs.frozen (J1.out.rowB on) 1; have g3 := World.rowIs.cell (J1.out.rowB on) (i := 1) (by decide); have J2 := hide (J1.out.bit ob on); have O2 := hide ((O1b.out.trans (On2.ontoA on _)).setCell (p := ⟨gt, 1, none⟩) HW.out.1 (.slice aob (bs ++ [mm]).length cob)); clear ob on))
  rw [show (bs ++ [mm]).length = bs.length + 1 by simp] at J2 O2
  generalize hW2 : W'.setCell ⟨gt, 1, none⟩ (.slice aob (bs.length + 1) cob) = W2 at *
  clear hW2 f3 g3 x1 J1 C1 SZ HM1 O1b O1 U1
  generalize bs.length + 1 = nb at *
  by_cases hleaf : mm = false ∨ K = 0
  · have TL := hide (tl_leaf ms L K p (by rw [HMM.out]; exact hleaf))
    rw [HMM.out] at TL
    obtain ⟨x, hg0, hx, hxl⟩ := HH0.out K HNN.out.1
    have hp := HNN.out.2.1
    obtain ⟨ax, cx, rfl⟩ := hxl.form
    obtain ⟨gx, offx, rfl⟩ := hxl.base (by omega)
    have AL := hide (hxl.1.at p hp)
    have LC : Hid (∀ W, (Below B.heap.size B W ∧ ∃ u, W.rowIs gt 33 3 (pc n (.slice aob nb cob) u)) → W.cell? ⟨g0, K, none⟩ = some (.slice (some ⟨gx, offx, none⟩) (lv L K).length cx) ∧ W.rangeAt gx (offx + p * 32) (cellsL (ia (lv L K) p))) := fun W h =>
      ⟨(h.1.cell (p := ⟨g0, K, none⟩) hg0).trans hx, (hxl.below h.1).range p hp⟩
    have i5 : (p : Int) < ((lv L K).length : Int) := by omega
    have i3 : (0 : Int) ≤ (p : Int) := by omega
    have i1 : (0 : Int) ≤ (K : Int) := by omega
    have i2 : (K : Int) < (N : Int) := by have := HNN.out.1; omega
    have SZ2 : Hid (is.length + 1 ≤ 4398046511104) := by
      show _ ≤ _
      have := Nat.le_of_add_right_le HNN.out.2.2.2
      omega
    generalize ia (lv L K) p = A at *
    generalize (lv L K).length = lx at *
    clear hx hxl hp
    have hcs : mm = false ∨ (mm = true ∧ ((K : Int) == 0) = true) := by
      cases mm
      · exact .inl rfl
      · refine .inr ⟨rfl, ?_⟩
        rcases hleaf with h | h
        · cases h
        · rw [h]
          rfl
    clear hleaf
    rcases hcs with rfl | ⟨rfl, hk0⟩
    all_goals
      go_upto_region 4 with fail
      refine wp_region_held_drew (S := fun W => Below B.heap.size B W ∧ ∃ u, W.rowIs gt 33 3 (pc n (.slice aob nb cob) u)) (by kernel_rfl) ⟨J2.out.bel.drew, _, J2.out.row⟩ (fun hH => ?_)
      refine wpAnyH_take (i := 0) (v := .pointer (some ⟨gt, 2, none⟩)) rfl (by kernel_rfl) (by kernel_rfl) (by kernel_rfl) (fun _ _ _ h => h) (.inl ⟨by rfl, fun W _ => by go_simp⟩) hH ?_
      change wpAnyH _ _ _ _ _ _ _ (Act.put _ (some 28) _) _
      simp only [Act.put, List.setIfInBounds_toArray, List.set_cons_zero, List.set_cons_succ]
      refine wpAnyH_take (i := 2) (v := .slice (some ⟨g0, 0, none⟩) N c0) rfl (by kernel_rfl) (by kernel_rfl) (by kernel_rfl) (fun _ _ _ h => h) (yl_move (by rfl) _ (by rfl) _ (by rfl)) hH ?_
      change wpAnyH _ _ _ _ _ _ _ (Act.put _ (some 30) _) _
      simp only [Act.put, List.setIfInBounds_toArray, List.set_cons_zero, List.set_cons_succ]
      refine wpAnyH_take (i := 3) (v := .int .i64 (K : Int)) rfl (by kernel_rfl) (by kernel_rfl) (by kernel_rfl) (fun _ _ _ h => h) (yl_move (by rfl) _ (by rfl) _ (by rfl)) hH ?_
      change wpAnyH _ _ _ _ _ _ _ (Act.put _ (some 31) _) _
      simp only [Act.put, List.setIfInBounds_toArray, List.set_cons_zero, List.set_cons_succ]
      refine wpAnyH_take (i := 4) (v := .pointer (some ⟨g0, K, none⟩)) rfl (by kernel_rfl) (by kernel_rfl) (by kernel_rfl) (fun _ _ _ h => h) (.inl ⟨by rfl, fun W _ => by go_simp⟩) hH ?_
      change wpAnyH _ _ _ _ _ _ _ (Act.put _ (some 32) _) _
      simp only [Act.put, List.setIfInBounds_toArray, List.set_cons_zero, List.set_cons_succ]
      refine wpAnyH_take (i := 5) (v := .slice (some ⟨gx, offx, none⟩) lx cx) rfl (by kernel_rfl) (by kernel_rfl) (by kernel_rfl) (fun _ _ _ h => h) (.inl ⟨by rfl, fun W hS => by have c4 := (LC.out W hS).1; go_simp⟩) hH ?_
      change wpAnyH _ _ _ _ _ _ _ (Act.put _ (some 33) _) _
      simp only [Act.put, List.setIfInBounds_toArray, List.set_cons_zero, List.set_cons_succ]
      refine wpAnyH_take (i := 6) (v := .int .i64 (p : Int)) rfl (by kernel_rfl) (by kernel_rfl) (by kernel_rfl) (fun _ _ _ h => h) (yl_move (by rfl) _ (by rfl) _ (by rfl)) hH ?_
      change wpAnyH _ _ _ _ _ _ _ (Act.put _ (some 34) _) _
      simp only [Act.put, List.setIfInBounds_toArray, List.set_cons_zero, List.set_cons_succ]
      refine wpAnyH_take (i := 7) (v := .pointer (some ⟨gx, offx + p * 32, none⟩)) rfl (by kernel_rfl) (by kernel_rfl) (by kernel_rfl) (fun _ _ _ h => h) (.inl ⟨by rfl, fun W _ => by go_simp⟩) hH ?_
      change wpAnyH _ _ _ _ _ _ _ (Act.put _ (some 35) _) _
      simp only [Act.put, List.setIfInBounds_toArray, List.set_cons_zero, List.set_cons_succ]
      refine wpAnyH_take (i := 8) (v := .agg (hc A)) rfl (by kernel_rfl) (by kernel_rfl) (by kernel_rfl) (fun _ _ _ h => h) (yl_load (by rfl) _ (by rfl) _ (hc A) (by rfl) (fun W hS => ER.load AL.out (LC.out W hS).2)) hH ?_
      change wpAnyH _ _ _ _ _ _ _ (Act.put _ (some 36) _) _
      simp only [Act.put, List.setIfInBounds_toArray, List.set_cons_zero, List.set_cons_succ]
      have J2d := hide (J2.out.next (Below.refl _ _).drew)
      have J3 := hide (J2d.out.next ((Below.refl _ _).alloc (Nat.le_refl _) (.cells (hc A) 38)))
      have ON3 : Hid (On2 W (W2.drew.alloc (.cells (hc A) 38)) (.slice ab bs.length cb) (.slice ai is.length ci) (.slice aob nb cob) (.slice ai is.length ci)) := O2.out.trans (On2.of_below (((Below.refl _ _).drew).alloc (Nat.le_refl _) _) _ _)
      have N3 := hide (one_newH (e := 38) W2.drew A)
      have x4 := World.rowIs.cell J2d.out.row (i := 2) (by decide)
      have x5 := World.rowIs.cell J3.out.row (i := 2) (by decide)
      rw [show pc n (.slice aob nb cob) (.slice ai is.length ci) 2 = .slice ai is.length ci from rfl] at x4 x5
      refine wpAnyH_ready (rs := [1, 9]) (by kernel_rfl) (by simp) (AllReadyH.cons rfl (fun K1 hK1 => ?_) (AllReadyH.cons rfl (fun K1 hK1 => ?_) AllReadyH.nil))
      · clear x5
        go_simp
        refine hK1.out _ _ ⟨J2d.out.bel, _, J2d.out.row⟩ (fun hH => ?_)
        clear hK1
        refine wpAnyH_ready (rs := [9]) (by kernel_rfl) (by simp) (AllReadyH.cons rfl (fun K1 hK1 => ?_) AllReadyH.nil)
        refine ET.stepBs1 ER (by rfl) _ (by rfl) A AL.out (by rfl) ?_
        refine hK1.out _ _ ⟨J3.out.bel, _, J3.out.row⟩ (fun hH => ?_)
        clear hK1
        change wpAnyH _ _ _ _ _ _ _ (Act.put _ (some 37) _) _
        simp only [Act.put, List.setIfInBounds_toArray, List.set_cons_zero, List.set_cons_succ]
        refine wpAnyH_ready (rs := [10]) (by kernel_rfl) (by simp) (AllReadyH.cons rfl (fun K1 hK1 => ?_) AllReadyH.nil)
        refine ET.step ER (by rfl) _ _ (by rfl) (.slice ai is.length ci) is (by rfl) J3.out.ids ⟨W2.drew.heap.size, 0, none⟩ A AL.out (by rfl) N3.out SZ2.out ?_
        intro v5 w5 o5 on5
        obtain ⟨ao5, c5, rfl⟩ := o5.form
        have f4 := World.rowIs.frozen (J3.out.rowI on5) 2
        have y4 := World.rowIs.cell (J3.out.rowI on5) (i := 2) (by decide)
        have UE := hide (J3.out.idm o5 on5)
        have S5 := hide (And.intro (J3.out.bel.trans (on5.below J3.out.bel.size J3.out.ifar)) (J3.out.rowI on5))
        have OE := hide ((ON3.out.trans (On2.ontoB on5 _)).setCell (p := ⟨gt, 2, none⟩) HW.out.1 (.slice ao5 (is ++ [A]).length c5))
        clear o5 on5
        refine hK1.out _ _ ⟨S5.out.1, _, S5.out.2⟩ (fun hH => ?_)
        clear hK1
        change wpAnyH _ _ _ _ _ _ _ (Act.put _ (some 38) _) _
        simp only [Act.put, List.setIfInBounds_toArray, List.set_cons_zero, List.set_cons_succ]
        refine wpAnyH_take (i := 11) (v := .pointer (some ⟨gt, 2, none⟩)) rfl (by kernel_rfl) (by kernel_rfl) (by kernel_rfl) (fun _ _ _ h => h) (.inl ⟨by rfl, fun W _ => by go_simp⟩) hH ?_
        change wpAnyH _ _ _ _ _ _ _ (Act.put _ (some 39) _) _
        simp only [Act.put, List.setIfInBounds_toArray, List.set_cons_zero, List.set_cons_succ]
        refine wpAnyH_ready (rs := [12]) (by kernel_rfl) (by simp) (AllReadyH.cons rfl (fun K1 hK1 => ?_) AllReadyH.nil)
        go_simp
        rw [show (is ++ [A]).length = is.length + 1 by simp] at UE OE
        refine hK1.out _ _ ⟨UE.out.bel, _, UE.out.row⟩ (fun hH => ?_)
        clear hK1
        refine wpAnyH_done (by kernel_rfl) ?_ _
        clear f4 y4 S5 J2d J3 N3 ON3
        generalize w5.setCell ⟨gt, 2, none⟩ (.slice ao5 (is.length + 1) c5) = W5 at *
        generalize is.length + 1 = n5 at *
        have q0 := World.rowIs.cell UE.out.row (i := 0) (by decide)
        have q1 := World.rowIs.cell UE.out.row (i := 1) (by decide)
        have q2 := World.rowIs.cell UE.out.row (i := 2) (by decide)
        rw [show pc n (.slice aob nb cob) (.slice ao5 n5 c5) 0 = .int .i64 (n : Int) from rfl] at q0
        rw [show pc n (.slice aob nb cob) (.slice ao5 n5 c5) 1 = (.slice aob nb cob) from rfl] at q1
        rw [show pc n (.slice aob nb cob) (.slice ao5 n5 c5) 2 = (.slice ao5 n5 c5) from rfl] at q2
        have h0 := World.rowIs.cell UE.out.res (i := 0) (by decide)
        have h1 := World.rowIs.cell UE.out.res (i := 1) (by decide)
        have h2 := World.rowIs.cell UE.out.res (i := 2) (by decide)
        have f0 := World.rowIs.frozen UE.out.res 0
        have f1 := World.rowIs.frozen UE.out.res 1
        have f2 := World.rowIs.frozen UE.out.res 2
        have EN := hide (UE.out.told OE.out HW.out.2)
        clear UE OE
        go_wp2
        obtain ⟨k0, k1, k2, hps, hon⟩ := EN.out
        generalize (((W5.setCell ⟨gh, 0, none⟩ (.int .i64 (n : Int))).setCell ⟨gh, 1, none⟩ (.slice aob nb cob)).setCell ⟨gh, 2, none⟩ (.slice ao5 n5 c5)) = W6 at *
        refine bodyPost_ret (v := .agg #[.int .i64 (n : Int), (.slice aob nb cob), (.slice ao5 n5 c5)]) ?_ rfl ⟨_, _, rfl, by rw [TL.out]; simpa using hps, hon⟩
        clear hps hon EN
        unfold results
        rw [Tryd.results23]
        go_simp
      · clear x4
        refine ET.stepBs1 ER (by rfl) _ (by rfl) A AL.out (by rfl) ?_
        refine hK1.out _ _ ⟨J3.out.bel, _, J3.out.row⟩ (fun hH => ?_)
        clear hK1
        change wpAnyH _ _ _ _ _ _ _ (Act.put _ (some 37) _) _
        simp only [Act.put, List.setIfInBounds_toArray, List.set_cons_zero, List.set_cons_succ]
        generalize W2.drew.alloc (.cells (hc A) 38) = W3 at *
        refine wpAnyH_ready (rs := [1]) (by kernel_rfl) (by simp) (AllReadyH.cons rfl (fun K1 hK1 => ?_) AllReadyH.nil)
        go_simp
        refine hK1.out _ _ ⟨J3.out.bel, _, J3.out.row⟩ (fun hH => ?_)
        clear hK1
        refine wpAnyH_ready (rs := [10]) (by kernel_rfl) (by simp) (AllReadyH.cons rfl (fun K1 hK1 => ?_) AllReadyH.nil)
        refine ET.step ER (by rfl) _ _ (by rfl) (.slice ai is.length ci) is (by rfl) J3.out.ids ⟨W2.drew.heap.size, 0, none⟩ A AL.out (by rfl) N3.out SZ2.out ?_
        intro v5 w5 o5 on5
        obtain ⟨ao5, c5, rfl⟩ := o5.form
        have f4 := World.rowIs.frozen (J3.out.rowI on5) 2
        have y4 := World.rowIs.cell (J3.out.rowI on5) (i := 2) (by decide)
        have UE := hide (J3.out.idm o5 on5)
        have S5 := hide (And.intro (J3.out.bel.trans (on5.below J3.out.bel.size J3.out.ifar)) (J3.out.rowI on5))
        have OE := hide ((ON3.out.trans (On2.ontoB on5 _)).setCell (p := ⟨gt, 2, none⟩) HW.out.1 (.slice ao5 (is ++ [A]).length c5))
        clear o5 on5
        refine hK1.out _ _ ⟨S5.out.1, _, S5.out.2⟩ (fun hH => ?_)
        clear hK1
        change wpAnyH _ _ _ _ _ _ _ (Act.put _ (some 38) _) _
        simp only [Act.put, List.setIfInBounds_toArray, List.set_cons_zero, List.set_cons_succ]
        refine wpAnyH_take (i := 11) (v := .pointer (some ⟨gt, 2, none⟩)) rfl (by kernel_rfl) (by kernel_rfl) (by kernel_rfl) (fun _ _ _ h => h) (.inl ⟨by rfl, fun W _ => by go_simp⟩) hH ?_
        change wpAnyH _ _ _ _ _ _ _ (Act.put _ (some 39) _) _
        simp only [Act.put, List.setIfInBounds_toArray, List.set_cons_zero, List.set_cons_succ]
        refine wpAnyH_ready (rs := [12]) (by kernel_rfl) (by simp) (AllReadyH.cons rfl (fun K1 hK1 => ?_) AllReadyH.nil)
        go_simp
        rw [show (is ++ [A]).length = is.length + 1 by simp] at UE OE
        refine hK1.out _ _ ⟨UE.out.bel, _, UE.out.row⟩ (fun hH => ?_)
        clear hK1
        refine wpAnyH_done (by kernel_rfl) ?_ _
        clear f4 y4 S5 J2d J3 N3 ON3
        generalize w5.setCell ⟨gt, 2, none⟩ (.slice ao5 (is.length + 1) c5) = W5 at *
        generalize is.length + 1 = n5 at *
        have q0 := World.rowIs.cell UE.out.row (i := 0) (by decide)
        have q1 := World.rowIs.cell UE.out.row (i := 1) (by decide)
        have q2 := World.rowIs.cell UE.out.row (i := 2) (by decide)
        rw [show pc n (.slice aob nb cob) (.slice ao5 n5 c5) 0 = .int .i64 (n : Int) from rfl] at q0
        rw [show pc n (.slice aob nb cob) (.slice ao5 n5 c5) 1 = (.slice aob nb cob) from rfl] at q1
        rw [show pc n (.slice aob nb cob) (.slice ao5 n5 c5) 2 = (.slice ao5 n5 c5) from rfl] at q2
        have h0 := World.rowIs.cell UE.out.res (i := 0) (by decide)
        have h1 := World.rowIs.cell UE.out.res (i := 1) (by decide)
        have h2 := World.rowIs.cell UE.out.res (i := 2) (by decide)
        have f0 := World.rowIs.frozen UE.out.res 0
        have f1 := World.rowIs.frozen UE.out.res 1
        have f2 := World.rowIs.frozen UE.out.res 2
        have EN := hide (UE.out.told OE.out HW.out.2)
        clear UE OE
        go_wp2
        obtain ⟨k0, k1, k2, hps, hon⟩ := EN.out
        generalize (((W5.setCell ⟨gh, 0, none⟩ (.int .i64 (n : Int))).setCell ⟨gh, 1, none⟩ (.slice aob nb cob)).setCell ⟨gh, 2, none⟩ (.slice ao5 n5 c5)) = W6 at *
        refine bodyPost_ret (v := .agg #[.int .i64 (n : Int), (.slice aob nb cob), (.slice ao5 n5 c5)]) ?_ rfl ⟨_, _, rfl, by rw [TL.out]; simpa using hps, hon⟩
        clear hps hon EN
        unfold results
        rw [Tryd.results23]
        go_simp
  · obtain ⟨rfl, hK0⟩ : mm = true ∧ K ≠ 0 := by
      constructor
      · cases mm
        · exact absurd (.inl rfl) hleaf
        · rfl
      · exact fun e => hleaf (.inr e)
    obtain ⟨k, hkk⟩ : ∃ k, K = k + 1 := ⟨K - 1, by omega⟩
    have hk0 : ((K : Int) == 0) = false := by rw [beq_eq_false_iff_ne]; omega
    have TI : Hid (tl ms L K p = (true :: ((tl ms L k (2 * p)).1 ++ if 2 * p + 1 < (lv L k).length then (tl ms L k (2 * p + 1)).1 else []), (tl ms L k (2 * p)).2 ++ if 2 * p + 1 < (lv L k).length then (tl ms L k (2 * p + 1)).2 else [])) := by
      have h := HMM.out
      rw [hkk] at h ⊢
      exact tl_inner ms L k p h
    obtain ⟨hk, hp, hb1, hb2⟩ := HNN.out
    have hl2 : (lv L K).length = ((lv L k).length + 1) / 2 := by rw [hkk, lv, nxt_len]
    have I1 := hide (HIH.out k hkk (2 * p) (by omega))
    have I2 := hide fun h => HIH.out k hkk (2 * p + 1) h
    have e2 : 2 ^ (K + 1) = 2 * 2 ^ (k + 1) := by rw [hkk, Nat.pow_succ']
    have hpw : 0 < 2 ^ (k + 1) := Nat.pos_of_ne_zero (by simp)
    have tl1 := tl_len ms L k (2 * p)
    have B1 : Hid ((bs ++ [true]).length + 2 ^ (k + 1) ≤ 1000000) := by
      show _ ≤ _
      rw [List.length_append, List.length_singleton]
      omega
    have B2 := hide (show is.length + 2 ^ (k + 1) ≤ 1000000 by omega)
    have B3 : Hid ((bs ++ [true] ++ (tl ms L k (2 * p)).1).length + 2 ^ (k + 1) ≤ 1000000) := by
      show _ ≤ _
      rw [List.length_append, List.length_append, List.length_singleton]
      omega
    have B4 : Hid ((is ++ (tl ms L k (2 * p)).2).length + 2 ^ (k + 1) ≤ 1000000) := by
      show _ ≤ _
      rw [List.length_append]
      omega
    obtain ⟨hN, hp3⟩ := HP3.out
    have w1 : IntKind.i64.wrap (2 * (p : Int)) = ((2 * p : Nat) : Int) := by rw [wrapI _ (by omega) (by omega)]; omega
    have w2 : IntKind.i64.wrap ((K : Int) - 1) = (k : Int) := by rw [wrapI _ (by omega) (by omega)]; omega
    have w3 : IntKind.i64.wrap (((2 * p : Nat) : Int) + 1) = ((2 * p + 1 : Nat) : Int) := by rw [wrapI _ (by omega) (by omega)]; omega
    obtain ⟨x, hg0, hx, hxl⟩ := HH0.out k (by omega)
    obtain ⟨ax, cx, rfl⟩ := hxl.form
    have i6 : (0 : Int) ≤ (k : Int) := by omega
    have i7 : (k : Int) < (N : Int) := by omega
    have HX := hide (And.intro hg0 hx)
    clear hleaf hkk hk hp hb1 hb2 hl2 e2 hpw tl1 hN hp3 hx hxl hg0 HIH hK0
    generalize hqq : 2 * p = q at *
    generalize hq1 : q + 1 = q1 at *
    clear hqq
    have t0 := World.rowIs.cell J2.out.row (i := 0) (by decide)
    have t1 := World.rowIs.cell J2.out.row (i := 1) (by decide)
    have t2 := World.rowIs.cell J2.out.row (i := 2) (by decide)
    rw [show pc n (.slice aob nb cob) (.slice ai is.length ci) 0 = .int .i64 (n : Int) from rfl] at t0
    rw [show pc n (.slice aob nb cob) (.slice ai is.length ci) 1 = .slice aob nb cob from rfl] at t1
    rw [show pc n (.slice aob nb cob) (.slice ai is.length ci) 2 = .slice ai is.length ci from rfl] at t2
    go_upto_region 7 with (first | (go_at_call 23; refine (I1.out _ _ _ _ _ J2.out.toPs B1.out B2.out).mono ?_; rintro e w4 ⟨vb3, vi3, rfl, ps3, on3⟩; obtain ⟨ab3, cb3, rfl⟩ := ps3.bits.form; obtain ⟨ai3, ci3, rfl⟩ := ps3.ids.form; generalize hl3 : (bs ++ [true] ++ (tl ms L k q).1).length = l3 at *; generalize hl4 : (is ++ (tl ms L k q).2).length = l4 at *; have HL3 := hide hl3; have HL4 := hide hl4; clear hl3 hl4; have row3 := on3.row J2.out.row (ob_not J2.out.bits J2.out.row) (oh_not J2.out.ids J2.out.row); have res3 := on3.row J2.out.res (ob_not J2.out.bits J2.out.res) (oh_not J2.out.ids J2.out.res); have r0 := World.rowIs.cell row3 (i := 0) (by decide); have r1 := World.rowIs.cell row3 (i := 1) (by decide); have r2 := World.rowIs.cell row3 (i := 2) (by decide); have z0 := World.rowIs.frozen row3 0; have z1 := World.rowIs.frozen row3 1; have z2 := World.rowIs.frozen row3 2; have UN := hide (Us.again row3 res3 J2.out.tfar J2.out.hfar J2.out.ne ps3); have OM := hide (((O2.out.trans on3).setCell (p := ⟨gt, 0, none⟩) HW.out.1 (.int .i64 (n : Int))).setCell (p := ⟨gt, 1, none⟩) HW.out.1 (.slice ab3 l3 cb3)); have ON := hide (OM.out.setCell (p := ⟨gt, 2, none⟩) HW.out.1 (.slice ai3 l4 ci3)); clear ps3 on3 row3 res3 OM))
    clear t0 t1 t2 r0 r1 r2 z0 z1 z2 J2 O2
    generalize ((w4.setCell ⟨gt, 0, none⟩ (.int .i64 (n : Int))).setCell ⟨gt, 1, none⟩ (.slice ab3 l3 cb3)).setCell ⟨gt, 2, none⟩ (.slice ai3 l4 ci3) = W5 at *
    have x1 := (UN.out.bel.cell (p := ⟨g0, k, none⟩) HX.out.1).trans HX.out.2
    by_cases hsec : q1 < (lv L k).length
    · have h5 : (q1 : Int) < ((lv L k).length : Int) := by omega
      have I3 := hide (I2.out hsec)
      rw [if_pos hsec, if_pos hsec] at TI
      clear hsec I2
      have UP := UN
      have OP := ON
      clear UN ON
      have t0 := World.rowIs.cell UP.out.row (i := 0) (by decide)
      have t1 := World.rowIs.cell UP.out.row (i := 1) (by decide)
      have t2 := World.rowIs.cell UP.out.row (i := 2) (by decide)
      rw [show pc n (.slice ab3 l3 cb3) (.slice ai3 l4 ci3) 0 = .int .i64 (n : Int) from rfl] at t0
      rw [show pc n (.slice ab3 l3 cb3) (.slice ai3 l4 ci3) 1 = .slice ab3 l3 cb3 from rfl] at t1
      rw [show pc n (.slice ab3 l3 cb3) (.slice ai3 l4 ci3) 2 = .slice ai3 l4 ci3 from rfl] at t2
      go_upto_region 9 with (first | (go_at_call 23; refine (I3.out _ _ _ _ _ UP.out.toPs (by rw [HL3.out]; exact B3.out) (by rw [HL4.out]; exact B4.out)).mono ?_; rintro e w6 ⟨vb6, vi6, rfl, ps6, on6⟩; obtain ⟨ab6, cb6, rfl⟩ := ps6.bits.form; obtain ⟨ai6, ci6, rfl⟩ := ps6.ids.form; generalize (bs ++ [true] ++ (tl ms L k q).1 ++ (tl ms L k q1).1).length = l5 at *; generalize (is ++ (tl ms L k q).2 ++ (tl ms L k q1).2).length = l6 at *; have row6 := on6.row UP.out.row (ob_not UP.out.bits UP.out.row) (oh_not UP.out.ids UP.out.row); have res6 := on6.row UP.out.res (ob_not UP.out.bits UP.out.res) (oh_not UP.out.ids UP.out.res); have r0 := World.rowIs.cell row6 (i := 0) (by decide); have r1 := World.rowIs.cell row6 (i := 1) (by decide); have r2 := World.rowIs.cell row6 (i := 2) (by decide); have z0 := World.rowIs.frozen row6 0; have z1 := World.rowIs.frozen row6 1; have z2 := World.rowIs.frozen row6 2; have UN := hide (Us.again row6 res6 UP.out.tfar UP.out.hfar UP.out.ne ps6); have OM := hide (((OP.out.trans on6).setCell (p := ⟨gt, 0, none⟩) HW.out.1 (.int .i64 (n : Int))).setCell (p := ⟨gt, 1, none⟩) HW.out.1 (.slice ab6 l5 cb6)); have ON := hide (OM.out.setCell (p := ⟨gt, 2, none⟩) HW.out.1 (.slice ai6 l6 ci6)); clear ps6 on6 row6 res6 OM))
      clear t0 t1 t2 r0 r1 r2 z0 z1 z2 UP OP
      generalize ((w6.setCell ⟨gt, 0, none⟩ (.int .i64 (n : Int))).setCell ⟨gt, 1, none⟩ (.slice ab6 l5 cb6)).setCell ⟨gt, 2, none⟩ (.slice ai6 l6 ci6) = W7 at *
      have UE := UN
      have OE := ON
      clear UN ON
      have e5 := World.rowIs.cell UE.out.row (i := 0) (by decide)
      have e6 := World.rowIs.cell UE.out.row (i := 1) (by decide)
      have e7 := World.rowIs.cell UE.out.row (i := 2) (by decide)
      rw [show pc n (.slice ab6 l5 cb6) (.slice ai6 l6 ci6) 0 = .int .i64 (n : Int) from rfl] at e5
      rw [show pc n (.slice ab6 l5 cb6) (.slice ai6 l6 ci6) 1 = .slice ab6 l5 cb6 from rfl] at e6
      rw [show pc n (.slice ab6 l5 cb6) (.slice ai6 l6 ci6) 2 = .slice ai6 l6 ci6 from rfl] at e7
      have h0 := World.rowIs.cell UE.out.res (i := 0) (by decide)
      have h1 := World.rowIs.cell UE.out.res (i := 1) (by decide)
      have h2 := World.rowIs.cell UE.out.res (i := 2) (by decide)
      have f0 := World.rowIs.frozen UE.out.res 0
      have f1 := World.rowIs.frozen UE.out.res 1
      have f2 := World.rowIs.frozen UE.out.res 2
      have EN := hide (UE.out.told OE.out HW.out.2)
      clear UE OE
      go_wp2
      obtain ⟨k0, k1, k2, hps, hon⟩ := EN.out
      generalize (((W7.setCell ⟨gh, 0, none⟩ (.int .i64 (n : Int))).setCell ⟨gh, 1, none⟩ (.slice ab6 l5 cb6)).setCell ⟨gh, 2, none⟩ (.slice ai6 l6 ci6)) = W9 at *
      refine bodyPost_ret (v := .agg #[.int .i64 (n : Int), .slice ab6 l5 cb6, .slice ai6 l6 ci6]) ?_ rfl ⟨_, _, rfl, by rw [TI.out]; simpa using hps, hon⟩
      clear hps hon EN
      unfold results
      rw [Tryd.results23]
      go_simp
    · have h5 : ¬ (q1 : Int) < ((lv L k).length : Int) := by omega
      rw [if_neg hsec, if_neg hsec] at TI
      clear hsec I2
      have UE := UN
      have OE := ON
      clear UN ON
      have e5 := World.rowIs.cell UE.out.row (i := 0) (by decide)
      have e6 := World.rowIs.cell UE.out.row (i := 1) (by decide)
      have e7 := World.rowIs.cell UE.out.row (i := 2) (by decide)
      rw [show pc n (.slice ab3 l3 cb3) (.slice ai3 l4 ci3) 0 = .int .i64 (n : Int) from rfl] at e5
      rw [show pc n (.slice ab3 l3 cb3) (.slice ai3 l4 ci3) 1 = .slice ab3 l3 cb3 from rfl] at e6
      rw [show pc n (.slice ab3 l3 cb3) (.slice ai3 l4 ci3) 2 = .slice ai3 l4 ci3 from rfl] at e7
      have h0 := World.rowIs.cell UE.out.res (i := 0) (by decide)
      have h1 := World.rowIs.cell UE.out.res (i := 1) (by decide)
      have h2 := World.rowIs.cell UE.out.res (i := 2) (by decide)
      have f0 := World.rowIs.frozen UE.out.res 0
      have f1 := World.rowIs.frozen UE.out.res 1
      have f2 := World.rowIs.frozen UE.out.res 2
      have EN := hide (UE.out.told OE.out HW.out.2)
      clear UE OE
      go_wp2
      obtain ⟨k0, k1, k2, hps, hon⟩ := EN.out
      generalize (((W5.setCell ⟨gh, 0, none⟩ (.int .i64 (n : Int))).setCell ⟨gh, 1, none⟩ (.slice ab3 l3 cb3)).setCell ⟨gh, 2, none⟩ (.slice ai3 l4 ci3)) = W9 at *
      refine bodyPost_ret (v := .agg #[.int .i64 (n : Int), .slice ab3 l3 cb3, .slice ai3 l4 ci3]) ?_ rfl ⟨_, _, rfl, by rw [TI.out]; simpa using hps, hon⟩
      clear hps hon EN
      unfold results
      rw [Tryd.results23]
      go_simp
end
end Go.Proofs.YthlaibkdcebekaaDoor
namespace Go.Proofs.YthlaibkdcebekaaDoor
open Go.RowKit
open Go.Deep
theorem rpart_any {B : World} {v0 vm : Value} {ms : List Bool} {L : List (List UInt8)} {N n : Nat} (T : ∃ g c, v0 = .slice (some ⟨g, 0, none⟩) N c ∧ ∀ i, i < N → ∃ x, g < B.heap.size ∧ B.cell? ⟨g, i, none⟩ = some x ∧ LH B x (lv L i)) (M : LB B vm ms) (hms : ms.length = L.length) (hn : L.length ≤ 300) (hN : N ≤ 10) : ∀ k, k < N → ∀ p, p < (lv L k).length → RTold B v0 vm ms L n k p
  | 0, hk, p, hp => rpart_step T M hms hn 0 p hk hN hp (by have := lv_le L 0; omega) (fun k e => by omega)
  | k + 1, hk, p, hp => rpart_step T M hms hn (k + 1) p hk hN hp (by have := lv_le L (k + 1); omega) (fun k' e q hq => by
      obtain rfl : k = k' := by omega
      exact rpart_any T M hms hn hN k (by omega) q hq)
section
set_option maxRecDepth 10000
set_option maxHeartbeats 4000000
theorem rPart_yes (v vm : Value) (L : List (List UInt8)) (ms : List Bool) (w : World) (hL : LH w v L) (hM : LB w vm ms) (hms : ms.length = L.length) (h0 : 0 < L.length) (hn : L.length ≤ 300) : Calls Tryd.prog 8 #[v, vm] w fun e w' => ∃ vb vi, e = .returned (.agg #[.int .i64 (L.length : Int), vb, vi]) ∧ OB w' vb (tl ms L (dp L.length) 0).1 ∧ OH 38 w' vi (tl ms L (dp L.length) 0).2 ∧ Below w.heap.size w w' := by
  obtain ⟨ao, cap, rfl⟩ := hL.form
  obtain ⟨am, capm, rfl, _⟩ := hM.form
  have HL := hide hL
  have HM := hide hM
  have HN := hide (And.intro hms (And.intro h0 hn))
  have HLv := hide fun W hW => rlevels_any (.slice ao L.length cap) L W hW h0 (by omega)
  clear hL hM h0 hn hms
  go_enter Tryd.func8, Tryd.ntmps8
  go_upto_region 1 with fail
  have R1 := hide (heap_alloc_last w (.cells #[.int .i64 0, .slice none 0 0, .slice none 0 0] 33))
  have B1 : Hid (Below w.heap.size w (w.alloc (.cells #[.int .i64 0, .slice none 0 0, .slice none 0 0] 33))) := (Below.refl _ _).alloc (Nat.le_refl _) _
  have S1 := hide (show w.heap.size < (w.alloc (.cells #[.int .i64 0, .slice none 0 0, .slice none 0 0] 33)).heap.size by simp)
  generalize w.alloc (.cells #[.int .i64 0, .slice none 0 0, .slice none 0 0] 33) = W1 at *
  go_upto_region 2 with (first | (go_at_call 22; refine (HLv.out _ (HL.out.below B1.out)).mono ?_; rintro e w2 ⟨v0, rfl, vs, l2, hvs⟩; have L2 := hide l2; have HVS := hide hvs; clear l2 hvs; obtain ⟨g0, c0, rfl, _⟩ := L2.out.form (by rw [HVS.out]; omega)))
  obtain ⟨hms, h0, hn⟩ := HN.out
  have hd9 : dp L.length ≤ 9 := by
    unfold dp
    split
    · omega
    · exact bl_le_of _ 9 (by omega)
  have hp2 : 2 ^ (dp L.length + 1) ≤ 2 ^ 10 := Nat.pow_le_pow_right (by decide) (by omega)
  have hvs := HVS.out
  have T : ∃ g c, Value.slice (some ⟨g0, 0, none⟩) vs.length c0 = .slice (some ⟨g, 0, none⟩) vs.length c ∧ ∀ i, i < vs.length → ∃ x, g < w2.heap.size ∧ w2.cell? ⟨g, i, none⟩ = some x ∧ LH w2 x (lv L i) := by
    refine ⟨g0, c0, rfl, fun i hi => ?_⟩
    have hx : vs[i]? = some (vs[i]'(by omega)) := List.getElem?_eq_getElem (by omega)
    exact ⟨_, (L2.out.row.lt g0 rfl).2, L2.out.cell rfl hx, (L2.out.el i _ hx).1⟩
  have HT := hide (rpart_any (n := L.length) T ((HM.out.below B1.out).below L2.out.bel) hms hn (by omega) (dp L.length) (by omega) 0 (lv_pos L h0 _))
  have P0 : Hid (Ps w2 w2 (.slice none 0 0) (.slice none 0 0) [] []) := ⟨Below.refl _ _, OB.nil _, (fun g hg => by cases hg), OH.nil _ _, (fun g hg => by cases hg)⟩
  have z1 := hide (show ([] : List Bool).length + 2 ^ (dp L.length + 1) ≤ 1000000 by simp; omega)
  have z2 := hide (show ([] : List (List UInt8)).length + 2 ^ (dp L.length + 1) ≤ 1000000 by simp; omega)
  have e1 : IntKind.i64.wrap ((vs.length : Int) - 1) = ((dp L.length : Nat) : Int) := by rw [wrapI _ (by omega) (by omega)]; omega
  have hs2 := L2.out.bel.size
  have hs1 := S1.out
  have R2 : Hid (w2.rowIs w.heap.size 33 3 (fun i => if i = 0 then .int .i64 0 else .slice none 0 0)) := by
    refine row_of (n := 3) rfl ((L2.out.bel.block _ (by omega)).trans R1.out) (fun i hi => ?_)
    have : i = 0 ∨ i = 1 ∨ i = 2 := by omega
    rcases this with rfl | rfl | rfl <;> rfl
  have B2 := hide (below_next B1.out L2.out.bel)
  have LT := hide (show w.heap.size < w2.heap.size by omega)
  clear hms h0 hn hd9 hp2 hvs T hs1 hs2 L2 R1 S1 B1 HLv HL HM HN
  generalize hlb : (tl ms L (dp L.length) 0).1.length = lb at *
  generalize hli : (tl ms L (dp L.length) 0).2.length = li at *
  have HLB := hide hlb
  have HLI := hide hli
  clear hlb hli
  generalize hgr : w.heap.size = gr at *
  have HGR := hide hgr
  clear hgr
  go_upto_region 3 with (first | (go_at_call 23; refine (HT.out _ _ _ _ _ P0.out z1.out z2.out).mono ?_; rintro e w3 ⟨vb, vi, rfl, ps3, on3⟩; rw [List.nil_append, List.nil_append] at ps3; obtain ⟨ab, cb, rfl⟩ := ps3.bits.form; obtain ⟨ai, ci, rfl⟩ := ps3.ids.form; rw [HLB.out, HLI.out] at ps3 on3; rw [HLB.out, HLI.out]; have hr := World.rowIs.of_block R2.out (ps3.bel.block _ LT.out); have PS := hide ps3; have HR := hide hr; have d0 := World.rowIs.cell hr (i := 0) (by decide); have d1 := World.rowIs.cell hr (i := 1) (by decide); have d2 := World.rowIs.cell hr (i := 2) (by decide); have f0 := World.rowIs.frozen hr 0; have f1 := World.rowIs.frozen hr 1; have f2 := World.rowIs.frozen hr 2; clear ps3 on3 hr))
  have Q2 := World.rowIs.set (World.rowIs.set (World.rowIs.set HR.out 0 (.int .i64 (L.length : Int))) 1 (.slice ab lb cb)) 2 (.slice ai li ci)
  have k0 := World.rowIs.cell Q2 (i := 0) (by decide)
  have k1 := World.rowIs.cell Q2 (i := 1) (by decide)
  have k2 := World.rowIs.cell Q2 (i := 2) (by decide)
  simp at k0 k1 k2
  have BF : Hid (OB (((w3.setCell ⟨gr, 0, none⟩ (.int .i64 (L.length : Int))).setCell ⟨gr, 1, none⟩ (.slice ab lb cb)).setCell ⟨gr, 2, none⟩ (.slice ai li ci)) (.slice ab lb cb) (tl ms L (dp L.length) 0).1 ∧ OH 38 (((w3.setCell ⟨gr, 0, none⟩ (.int .i64 (L.length : Int))).setCell ⟨gr, 1, none⟩ (.slice ab lb cb)).setCell ⟨gr, 2, none⟩ (.slice ai li ci)) (.slice ai li ci) (tl ms L (dp L.length) 0).2 ∧ Below w.heap.size w (((w3.setCell ⟨gr, 0, none⟩ (.int .i64 (L.length : Int))).setCell ⟨gr, 1, none⟩ (.slice ab lb cb)).setCell ⟨gr, 2, none⟩ (.slice ai li ci))) := by
    have hb : ∀ g, g ≠ gr → (((w3.setCell ⟨gr, 0, none⟩ (.int .i64 (L.length : Int))).setCell ⟨gr, 1, none⟩ (.slice ab lb cb)).setCell ⟨gr, 2, none⟩ (.slice ai li ci)).heap[g]? = w3.heap[g]? := fun g h => by
      rw [Below.heap_setCell _ _ _ _ h, Below.heap_setCell _ _ _ _ h, Below.heap_setCell _ _ _ _ h]
    have hlt := LT.out
    have hg := HGR.out
    refine ⟨PS.out.bits.of_block fun g hg => hb g ?_, PS.out.ids.of_block fun g hg => hb g ?_, ?_⟩
    · have := PS.out.bfar g hg
      omega
    · have := PS.out.ifar g hg
      omega
    · subst hg
      have b5 := below_next B2.out PS.out.bel
      exact ((b5.setCell (Nat.le_refl _) _).setCell (Nat.le_refl _) _).setCell (Nat.le_refl _) _
  generalize (((w3.setCell ⟨gr, 0, none⟩ (.int .i64 (L.length : Int))).setCell ⟨gr, 1, none⟩ (.slice ab lb cb)).setCell ⟨gr, 2, none⟩ (.slice ai li ci)) = W6 at *
  refine bodyPost_ret (v := .agg #[.int .i64 (L.length : Int), .slice ab lb cb, .slice ai li ci]) ?_ rfl ⟨_, _, rfl, BF.out⟩
  unfold results
  rw [Tryd.results8]
  clear BF PS HT P0 R2 B2 HR Q2 d0 d1 d2 f0 f1 f2
  go_simp
end
end Go.Proofs.YthlaibkdcebekaaDoor
