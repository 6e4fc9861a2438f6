/- A reader of a tree in parts at its block. -/
import Derived.Test.YthlaibkdcebekaaDoorNr
namespace Go.Proofs.YthlaibkdcebekaaDoor
open Go.RowKit
open Go.Deep
/-- The cells of a reader. -/
def rc5 (n : Nat) (vb vi vp vm : Value) (i : Nat) : Value := if i = 0 then .int .i64 (n : Int) else if i = 1 then vb else if i = 2 then vi else if i = 3 then vp else vm
/-- A reader at block gt, all of it made behind B; what is left, what was met. -/
structure Rr (B W : World) (gt n : Nat) (vb vi vp vm : Value) (bs : List Bool) (is : List (List UInt8)) (ps : List Nat) (ms : List (List UInt8)) : Prop where
  bel : Below B.heap.size B W
  tfar : B.heap.size ≤ gt
  row : W.rowIs gt 65 5 (rc5 n vb vi vp vm)
  bits : LB B vb bs
  ids : LH B vi is
  pl : OI W vp ps
  pfar : ∀ g, vp.ownBlock = some g → B.heap.size ≤ g
  mt : OH 39 W vm ms
  mfar : ∀ g, vm.ownBlock = some g → B.heap.size ≤ g
section
variable {B W W' : World} {gt n : Nat} {vb vi vp vm v' : Value} {bs bs' : List Bool} {is is' : List (List UInt8)} {ps ps' : List Nat} {ms ms' : List (List UInt8)}
theorem oi_not {f : Nat → Value} (o : OI W vp ps) (r : W.rowIs gt 65 5 f) : vp.ownBlock ≠ some gt := fun e => by
  rcases o.2 with ⟨rfl, _⟩ | ⟨g1, cap, cur, rfl, _, hg, _⟩
  · cases e
  · cases e
    obtain ⟨c, hc, _⟩ := r
    rw [hg] at hc
    injection hc with hc
    injection hc with _ e2
    exact absurd e2 (by decide)
theorem oh_not5 {f : Nat → Value} (o : OH 39 W vm ms) (r : W.rowIs gt 65 5 f) : vm.ownBlock ≠ some gt := fun e => by
  rcases o.2.2 with ⟨rfl, _⟩ | ⟨g1, cap, cur, rfl, _, hg, _⟩
  · cases e
  · cases e
    obtain ⟨c, hc, _⟩ := r
    rw [hg] at hc
    injection hc with hc
    injection hc with _ e2
    exact absurd e2 (by decide)
theorem Rr.pm (j : Rr B W gt n vb vi vp vm bs is ps ms) : ∀ g, vp.ownBlock = some g → vm.ownBlock ≠ some g := fun g h1 h2 => by
  rcases j.pl.2 with ⟨rfl, _⟩ | ⟨g1, cap, cur, rfl, _, hg, _⟩
  · cases h1
  · rcases j.mt.2.2 with ⟨rfl, _⟩ | ⟨g2, cap2, cur2, rfl, _, hg2, _⟩
    · cases h2
    · cases h1
      cases h2
      rw [hg] at hg2
      injection hg2 with hg2
      injection hg2 with _ e2
      exact absurd e2 (by decide)
theorem Rr.next (j : Rr B W gt n vb vi vp vm bs is ps ms) (h : Below W.heap.size W W') : Rr B W' gt n vb vi vp vm bs is ps ms :=
  ⟨below_next j.bel h, j.tfar, World.rowIs.of_block j.row (h.block _ (World.rowIs.lt j.row)), j.bits, j.ids, j.pl.below h, j.pfar, j.mt.below h, j.mfar⟩
/-- Another world, where the reader's blocks are as they were. -/
theorem Rr.kept (j : Rr B W gt n vb vi vp vm bs is ps ms) (hb : Below B.heap.size B W') (h0 : W'.heap[gt]? = W.heap[gt]?) (h1 : ∀ g, vp.ownBlock = some g → W'.heap[g]? = W.heap[g]?) (h2 : ∀ g, vm.ownBlock = some g → W'.heap[g]? = W.heap[g]?) : Rr B W' gt n vb vi vp vm bs is ps ms :=
  ⟨hb, j.tfar, World.rowIs.of_block j.row h0, j.bits, j.ids, j.pl.of_block h1, j.pfar, j.mt.of_block h2, j.mfar⟩
/-- The bits that are left, laid. -/
theorem Rr.setB (j : Rr B W gt n vb vi vp vm bs is ps ms) (h : LB B v' bs') : Rr B (W.setCell ⟨gt, 1, none⟩ v') gt n v' vi vp vm bs' is ps ms := by
  refine ⟨j.bel.setCell j.tfar _, j.tfar, (World.rowIs.set j.row 1 v').congr (fun i hi => ?_), h, j.ids, j.pl.of_block (fun g hg => Below.heap_setCell _ _ _ _ (fun e => oi_not j.pl j.row (hg.trans (congrArg some e)))), j.pfar, j.mt.of_block (fun g hg => Below.heap_setCell _ _ _ _ (fun e => oh_not5 j.mt j.row (hg.trans (congrArg some e)))), j.mfar⟩
  have : i = 0 ∨ i = 1 ∨ i = 2 ∨ i = 3 ∨ i = 4 := by omega
  rcases this with rfl | rfl | rfl | rfl | rfl <;> simp [rc5]
/-- The ids that are left, laid. -/
theorem Rr.setI (j : Rr B W gt n vb vi vp vm bs is ps ms) (h : LH B v' is') : Rr B (W.setCell ⟨gt, 2, none⟩ v') gt n vb v' vp vm bs is' ps ms := by
  refine ⟨j.bel.setCell j.tfar _, j.tfar, (World.rowIs.set j.row 2 v').congr (fun i hi => ?_), j.bits, h, j.pl.of_block (fun g hg => Below.heap_setCell _ _ _ _ (fun e => oi_not j.pl j.row (hg.trans (congrArg some e)))), j.pfar, j.mt.of_block (fun g hg => Below.heap_setCell _ _ _ _ (fun e => oh_not5 j.mt j.row (hg.trans (congrArg some e)))), j.mfar⟩
  have : i = 0 ∨ i = 1 ∨ i = 2 ∨ i = 3 ∨ i = 4 := by omega
  rcases this with rfl | rfl | rfl | rfl | rfl <;> simp [rc5]
theorem Rr.rowP (j : Rr B W gt n vb vi vp vm bs is ps ms) (h : Onto W W' vp v') : W'.rowIs gt 65 5 (rc5 n vb vi vp vm) :=
  World.rowIs.of_block j.row (h.grown.block _ (World.rowIs.lt j.row) (fun e => oi_not j.pl j.row e.symm))
theorem Rr.rowM (j : Rr B W gt n vb vi vp vm bs is ps ms) (h : Onto W W' vm v') : W'.rowIs gt 65 5 (rc5 n vb vi vp vm) :=
  World.rowIs.of_block j.row (h.grown.block _ (World.rowIs.lt j.row) (fun e => oh_not5 j.mt j.row e.symm))
/-- A place more. -/
theorem Rr.place (j : Rr B W gt n vb vi vp vm bs is ps ms) (o : OI W' v' ps') (h : Onto W W' vp v') : Rr B (W'.setCell ⟨gt, 3, none⟩ v') gt n vb vi v' vm bs is ps' ms := by
  have hr := j.rowP h
  refine ⟨(j.bel.trans (h.below j.bel.size j.pfar)).setCell j.tfar _, j.tfar, (World.rowIs.set hr 3 v').congr (fun i hi => ?_), j.bits, j.ids, o.of_block (fun g hg => Below.heap_setCell _ _ _ _ (fun e => oi_not o hr (hg.trans (congrArg some e)))), h.far j.bel.size j.pfar, (j.mt.of_block fun g hg => h.grown.block g (j.mt.lt g hg) (fun e => j.pm g e.symm hg)).of_block (fun g hg => Below.heap_setCell _ _ _ _ (fun e => oh_not5 j.mt j.row (hg.trans (congrArg some e)))), j.mfar⟩
  have : i = 0 ∨ i = 1 ∨ i = 2 ∨ i = 3 ∨ i = 4 := by omega
  rcases this with rfl | rfl | rfl | rfl | rfl <;> simp [rc5]
/-- A meant id more. -/
theorem Rr.meant (j : Rr B W gt n vb vi vp vm bs is ps ms) (o : OH 39 W' v' ms') (h : Onto W W' vm v') : Rr B (W'.setCell ⟨gt, 4, none⟩ v') gt n vb vi vp v' bs is ps ms' := by
  have hr := j.rowM h
  refine ⟨(j.bel.trans (h.below j.bel.size j.mfar)).setCell j.tfar _, j.tfar, (World.rowIs.set hr 4 v').congr (fun i hi => ?_), j.bits, j.ids, (j.pl.of_block fun g hg => h.grown.block g (j.pl.lt g hg) (fun e => j.pm g hg e.symm)).of_block (fun g hg => Below.heap_setCell _ _ _ _ (fun e => oi_not j.pl j.row (hg.trans (congrArg some e)))), j.pfar, o.of_block (fun g hg => Below.heap_setCell _ _ _ _ (fun e => oh_not5 o hr (hg.trans (congrArg some e)))), h.far j.bel.size j.mfar⟩
  have : i = 0 ∨ i = 1 ∨ i = 2 ∨ i = 3 ∨ i = 4 := by omega
  rcases this with rfl | rfl | rfl | rfl | rfl <;> simp [rc5]
end
/-- What a call of the reader answers. -/
def RA (B w' : World) (gt n : Nat) (vp' vm' : Value) (ps : List Nat) (ms : List (List UInt8)) : Option Rd → Ending → Prop
  | none, e => e = .returned (.tuple #[.agg (hc zeros), .bool false])
  | some r, e => e = .returned (.tuple #[.agg (hc r.id), .bool true]) ∧ r.id.length = 32 ∧ ∃ vb' vi', Rr B w' gt n vb' vi' vp' vm' r.bits r.ids (ps ++ r.places) (ms ++ r.meant)
/-- What read does at a level and a place. -/
def RR (B : World) (gt n k p : Nat) : Prop :=
  ∀ (vb vi vp vm : Value) (bs : List Bool) (is : List (List UInt8)) (ps : List Nat) (ms : List (List UInt8)) (W : World), Rr B W gt n vb vi vp vm bs is ps ms → ps.length + 2 ^ k ≤ 1000000 → ms.length + 2 ^ k ≤ 1000000 →
    Calls Tryd.prog 24 #[.pointer (some ⟨gt, 0, none⟩), .int .i64 (k : Int), .int .i64 (p : Int)] W fun e w' => ∃ vp' vm', On3 gt W w' vp vm vp' vm' ∧ Below B.heap.size B w' ∧ RA B w' gt n vp' vm' ps ms (rd n k p bs is) e
/-- What is read of two that stand together. -/
def rdP (n k q : Nat) (bs : List Bool) (is : List (List UInt8)) : Option Rd :=
  match rd n k q bs is with
  | none => none
  | some a =>
    if q + 1 < wdt n k then
      match rd n k (q + 1) a.bits a.ids with
      | none => none
      | some b => if a.id = b.id then none else some ⟨pr a.id b.id, b.bits, b.ids, a.places ++ b.places, a.meant ++ b.meant⟩
    else some ⟨pr a.id a.id, a.bits, a.ids, a.places, a.meant⟩
theorem rd_up (n k p : Nat) (bs : List Bool) (is : List (List UInt8)) : rd n (k + 1) p (true :: bs) is = rdP n k (2 * p) bs is := rfl
/-- What readParts does. -/
def RP (B : World) (gt n k q : Nat) : Prop :=
  ∀ (vb vi vp vm : Value) (bs : List Bool) (is : List (List UInt8)) (ps : List Nat) (ms : List (List UInt8)) (W : World), Rr B W gt n vb vi vp vm bs is ps ms → ps.length + 2 ^ (k + 1) ≤ 1000000 → ms.length + 2 ^ (k + 1) ≤ 1000000 →
    Calls Tryd.prog 37 #[.pointer (some ⟨gt, 0, none⟩), .int .i64 (k : Int), .int .i64 (q : Int)] W fun e w' => ∃ vp' vm', On3 gt W w' vp vm vp' vm' ∧ Below B.heap.size B w' ∧ RA B w' gt n vp' vm' ps ms (rdP n k q bs is) e
/-- Not more is met than there are positions beneath. -/
theorem rd_len (n : Nat) : ∀ (k p : Nat) (bs : List Bool) (is : List (List UInt8)) (r : Rd), rd n k p bs is = some r → r.places.length ≤ 2 ^ k ∧ r.meant.length ≤ 2 ^ k
  | _, _, [], _, r, h => by simp [rd] at h
  | 0, _, _ :: _, [], r, h => by simp [rd] at h
  | 0, p, b :: bs, x :: is, r, h => by
    simp [rd] at h
    subst h
    cases b <;> simp
  | _ + 1, _, false :: _, [], r, h => by simp [rd] at h
  | _ + 1, _, false :: bs, x :: is, r, h => by
    simp [rd] at h
    subst h
    simp
  | k + 1, p, true :: bs, is, r, h => by
    rw [rd_up, rdP] at h
    have e2 : 2 ^ (k + 1) = 2 ^ k + 2 ^ k := by rw [Nat.pow_succ]; omega
    cases ha : rd n k (2 * p) bs is with
    | none => rw [ha] at h; cases h
    | some a =>
      rw [ha] at h
      have l1 := rd_len n k _ _ _ _ ha
      simp only at h
      split at h
      · cases hb : rd n k (2 * p + 1) a.bits a.ids with
        | none => rw [hb] at h; cases h
        | some b =>
          rw [hb] at h
          have l2 := rd_len n k _ _ _ _ hb
          simp only at h
          split at h
          · cases h
          · cases h
            simp only [List.length_append]
            omega
      · cases h
        simp only
        omega
end Go.Proofs.YthlaibkdcebekaaDoor
