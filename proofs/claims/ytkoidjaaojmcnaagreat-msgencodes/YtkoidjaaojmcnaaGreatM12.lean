/- Messages as bytes: places, each told by how far it is behind the one ahead. -/
import Derived.Test.YtkoidjaaojmcnaaGreatM11
namespace Go.Proofs.YtkoidjaaojmcnaaGreat
open Go.RowKit
open Go.Deep
/-- w' is w but for the writer's block, its row, block ga and new blocks. -/
structure Wfa (w w' : World) (b ga : Nat) : Prop where
  os : w'.os = w.os
  tape : w'.tape = w.tape
  output : w'.output = w.output
  size : w.heap.size ≤ w'.heap.size
  block : ∀ k, k < w.heap.size → k ≠ b → rowOf w (pb b) ≠ some k → k ≠ ga → w'.heap[k]? = w.heap[k]?
  lies : rowOf w' (pb b) = rowOf w (pb b) ∨ ∃ g, rowOf w' (pb b) = some g ∧ w.heap.size ≤ g
section
variable {w w1 w' : World} {b ga : Nat}
theorem Wfa.refl : Wfa w w b ga := ⟨rfl, rfl, rfl, Nat.le_refl _, fun _ _ _ _ _ => rfl, .inl rfl⟩
theorem Wfa.of (f : Wfr w w' (pb b)) : Wfa w w' b ga := ⟨f.os, f.tape, f.output, f.size, fun k h1 h2 h3 _ => f.block k h1 (by simp [blkOf]; exact fun e => h2 e.symm) h3, f.lies⟩
theorem Wfa.trans (h : Wfa w w1 b ga) (k : Wfa w1 w' b ga) : Wfa w w' b ga := by
  have hs := h.size
  refine ⟨k.os.trans h.os, k.tape.trans h.tape, k.output.trans h.output, Nat.le_trans hs k.size, fun i h1 h2 h3 h4 => ?_, ?_⟩
  · rw [k.block i (by omega) h2 (fun e => ?_) h4, h.block i h1 h2 h3 h4]
    rcases h.lies with e1 | ⟨g, e1, hg⟩
    · exact h3 (by rw [← e1]; exact e)
    · rw [e1] at e
      cases e
      omega
  · rcases k.lies with e2 | ⟨g, e2, hg⟩
    · rcases h.lies with e1 | ⟨g, e1, hg⟩
      · exact .inl (e2.trans e1)
      · exact .inr ⟨g, e2.trans e1, hg⟩
    · exact .inr ⟨g, e2, by omega⟩
theorem cell_setOther (w : World) (g k i j : Nat) (v : Value) (h : k ≠ g) : (w.setCell ⟨g, i, none⟩ v).cell? ⟨k, j, none⟩ = w.cell? ⟨k, j, none⟩ := World.cell?_of_block (a := ⟨k, j, none⟩) (blk_setCell_other _ _ _ _ h)
theorem Wfa.set (hne : ga ≠ b) (v : Value) : Wfa w (w.setCell ⟨ga, 0, none⟩ v) b ga :=
  ⟨rfl, rfl, rfl, by simp [World.setCell], fun k _ _ _ h4 => blk_setCell_other _ _ _ _ h4, .inl (by simp only [rowOf]; rw [cell_setOther _ _ _ _ _ _ (Ne.symm hne)])⟩
end
/-- A writer, a box with its pointer, and a cell that holds the place ahead. -/
structure Wh (B w : World) (b g ga : Nat) (l : List UInt8) (a : Int) : Prop where
  wg : Wg B w b g l
  ac : w.heap[ga]? = some (.cells #[.int .i64 a] 3 (0, 0))
  nea : ga ≠ b
  rowa : rowOf w (pb b) ≠ some ga
  gga : g ≠ ga
  far : B.heap.size ≤ ga
section
variable {B w w' : World} {b g ga : Nat} {l l' : List UInt8} {a : Int}
theorem Wh.step (h : Wh B w b g ga l a) (s : Wb B w' b l') (f : Wfr w w' (pb b)) : Wh B w' b g ga l' a := by
  have hg := lt_heap h.ac
  refine ⟨h.wg.step s f, (f.block ga hg (by simp [blkOf]; exact fun e => h.nea e.symm) h.rowa).trans h.ac, h.nea, fun e => ?_, h.gga, h.far⟩
  rcases f.lies with e1 | ⟨k, e1, hk⟩
  · exact h.rowa (by rw [← e1]; exact e)
  · rw [e1] at e
    cases e
    omega
theorem Wh.stepN (h : Wh B w b g ga l a) (s : Wst w' (pb b) l') (f : Wfr w w' (pb b)) : Wh B w' b g ga l' a := h.step (h.wg.wb.step s f) f
theorem Wh.next (h : Wh B w b g ga l a) (k : Below w.heap.size w w') : Wh B w' b g ga l a := h.step (h.wg.wb.next k) (Wfr.of_below h.wg.wb.st k)
theorem Wh.c (h : Wh B w b g ga l a) : w.cell? ⟨ga, 0, none⟩ = some (.int .i64 a) := by rw [cell_of_row _ _ 0 _ _ _ h.ac]; rfl
theorem Wh.f (h : Wh B w b g ga l a) : w.frozen? ⟨ga, 0, none⟩ = false := frozen_of_row _ _ 0 _ _ h.ac
theorem Wh.set (h : Wh B w b g ga l a) (a' : Int) : Wh B (w.setCell ⟨ga, 0, none⟩ (.int .i64 a')) b g ga l a' := by
  have hb : ∀ k, k ≠ ga → (w.setCell ⟨ga, 0, none⟩ (.int .i64 a')).heap[k]? = w.heap[k]? := fun k hk => blk_setCell_other _ _ _ _ hk
  have er : rowOf (w.setCell ⟨ga, 0, none⟩ (.int .i64 a')) (pb b) = rowOf w (pb b) := by
    simp only [rowOf]
    rw [cell_setOther _ _ _ _ _ _ (Ne.symm h.nea)]
  have hst : Wst (w.setCell ⟨ga, 0, none⟩ (.int .i64 a')) (pb b) l := by
    rcases h.wg.wb.st with e | ⟨b', v, hp, hc, hf, ho, hne⟩
    · cases e
    · cases hp
      refine .inr ⟨b, v, rfl, (cell_setOther _ _ _ _ _ _ (Ne.symm h.nea)).trans hc, ?_, ?_, hne⟩
      · have hbb := hb b (Ne.symm h.nea)
        simp only [World.frozen?] at hf ⊢
        rw [hbb]
        exact hf
      · refine Own.kept ho (row := some ga) (setCell_grown w ga 0 _) ?_
        right
        intro e
        exact h.rowa (by simp [rowOf, hc, e])
  refine ⟨⟨⟨hst, h.wg.wb.bel.trans ⟨rfl, rfl, rfl, by simp [World.setCell], fun k hk => hb k (by have := h.far; omega)⟩, h.wg.wb.far, by rw [er]; exact h.wg.wb.row⟩, (hb g h.gga).trans h.wg.cell, h.wg.ne, by rw [er]; exact h.wg.row⟩, heap_setCell_same w ga 0 _ _ _ h.ac, h.nea, by rw [er]; exact h.rowa, h.gga, h.far⟩
end
/-- How far a place is behind the one ahead. -/
def gapL (a p : Int) : List UInt8 := countL (p - a - 1).toNat
def gapsL : Int → List Int → List UInt8
  | _, [] => []
  | a, p :: r => gapL a p ++ gapsL p r
def rawL (x : ByteArray) : List UInt8 := countL x.size ++ x.data.toList
def fillL : Int → List Fd → List UInt8
  | _, [] => []
  | a, x :: r => gapL a x.place ++ rawL x.raw ++ fillL x.place r
/-- Places that rise. -/
def riseP : Int → List Int → Prop
  | _, [] => True
  | a, p :: r => a < p ∧ p ≤ 65535 ∧ riseP p r
theorem gapL_len (a p : Int) : (gapL a p).length ≤ 9 := by
  have h1 := countL_len (p - a - 1).toNat
  have h2 := clong_le (p - a - 1).toNat
  unfold gapL
  omega
section
set_option maxRecDepth 10000
set_option maxHeartbeats 4000000
theorem putPlace_any (a p : Int) (h1 : -1 ≤ a) (h2 : a < p) (h3 : p ≤ 65535) {w : World} {b : Nat} {l : List UInt8} (h : Wst w (pb b) l) (hl : l.length ≤ 35184372088000) : Calls Tryz.prog 62 #[pb b, .int .i64 a, .int .i64 p] w fun e w' => e = .returned (.int .i64 p) ∧ Wst w' (pb b) (l ++ gapL a p) ∧ Wfr w w' (pb b) := by
  have e1 : IntKind.i64.wrap (p - a) = p - a := wrapI _ (by omega) (by omega)
  have e2 : IntKind.i64.wrap (p - a - 1) = p - a - 1 := wrapI _ (by omega) (by omega)
  unfold gapL
  obtain ⟨n, hn⟩ := Int.eq_ofNat_of_zero_le (show 0 ≤ p - a - 1 by omega)
  have e3 : IntKind.u64.wrap (p - a - 1) = (n : Int) := by rw [wrapu _ (by omega) (by omega)]; exact hn
  rw [show (p - a - 1).toNat = n by omega]
  have HC := hide (wCount (pb b) l n (by unfold U64; omega) w (by omega) h)
  clear h hl h1 h2 h3 hn
  go_enter Tryz.func62, Tryz.ntmps62
  go_wp2_with (go_at_call 57; with_reducible refine HC.out.mono ?_; rintro e W1 ⟨rfl, s1, f1⟩; have S1 := hide (And.intro s1 f1); clear s1 f1)
  go_ret
  exact ⟨rfl, S1.out.1, S1.out.2⟩
theorem el_place (p : Int) {B w : World} {b g ga : Nat} {l : List UInt8} {a : Int} (h1 : -1 ≤ a) (h2 : a < p) (h3 : p ≤ 65535) (h : Wh B w b g ga l a) (hl : l.length ≤ 35184372080000) : Calls Tryz.prog 61 #[.int .i64 p, pb g, pb ga] w fun e w' => e = .returned (.tuple #[]) ∧ Wh B w' b g ga (l ++ gapL a p) p ∧ Wfa w w' b ga := by
  have HP := hide (putPlace_any a p h1 h2 h3 h.wg.wb.st (by omega))
  have G0 := hide h
  have cg := G0.out.wg.c
  have ca := G0.out.c
  clear h hl h1 h2 h3
  go_enter Tryz.func61, Tryz.ntmps61
  go_wp2_with (go_at_call 62; with_reducible refine HP.out.mono ?_; rintro e W1 ⟨rfl, s1, f1⟩; have G1 := hide (G0.out.stepN s1 f1); have F1 := hide f1; have c1 := G1.out.c; have f2 := G1.out.f; clear s1 f1)
  go_end0
  exact ⟨rfl, G1.out.set p, (Wfa.of F1.out).trans (Wfa.set G1.out.nea _)⟩
theorem AFd : Arr 77 2 #[.int .i64 0, .string ⟨#[]⟩] := ⟨.inr ⟨_, Tryz.underlying77⟩, by kernel_rfl, fun w => by kernel_rfl, fun w => by kernel_rfl, rfl⟩
theorem el_filled (x : Fd) (hx : x.raw.size ≤ 4096) {B w : World} {b g ga : Nat} {l : List UInt8} {a : Int} (h1 : -1 ≤ a) (h2 : a < x.place) (h3 : x.place ≤ 65535) (h : Wh B w b g ga l a) (hl : l.length ≤ 35184372080000) : Calls Tryz.prog 108 #[.agg x.cells.toArray, pb g, pb ga] w fun e w' => e = .returned (.tuple #[]) ∧ Wh B w' b g ga (l ++ (gapL a x.place ++ rawL x.raw)) x.place ∧ Wfa w w' b ga := by
  have bA : Below w.heap.size w (w.alloc (.cells x.cells.toArray 77)) := (Below.refl _ _).alloc (Nat.le_refl _) _
  have rA := heap_alloc_last w (.cells x.cells.toArray 77)
  have G0 := hide (h.next bA)
  have FA : Hid (Wfa w (w.alloc (.cells x.cells.toArray 77)) b ga) := Wfa.of (Wfr.of_below h.wg.wb.st bA)
  have HP := hide (putPlace_any a x.place h1 h2 h3 G0.out.wg.wb.st (by omega))
  have cg := G0.out.wg.c
  have ca := G0.out.c
  have c0 : (w.alloc (.cells x.cells.toArray 77)).cell? ⟨w.heap.size, 0, none⟩ = some (.int .i64 x.place) := by rw [cell_of_row _ _ _ _ _ _ rA]; rfl
  have hlt := h.wg.wb.st.lt
  have hga := lt_heap h.ac
  have R0 := hide rA
  have HROW : Hid (rowOf (w.alloc (.cells x.cells.toArray 77)) (pb b) ≠ some w.heap.size) := fun e => by
    have e2 : rowOf (w.alloc (.cells x.cells.toArray 77)) (pb b) = rowOf w (pb b) := by
      have : (w.alloc (.cells x.cells.toArray 77)).cell? ⟨b, 0, none⟩ = w.cell? ⟨b, 0, none⟩ := bA.cell (p := ⟨b, 0, none⟩) hlt
      simp [rowOf, this]
    rw [e2] at e
    have := h.wg.wb.st.row_lt e
    omega
  have HNE := hide (And.intro (show w.heap.size ≠ b by omega) (show w.heap.size ≠ ga by omega))
  have HL := hide (And.intro hl (gapL_len a x.place))
  have HS : Hid (∀ W l', l'.length ≤ 35184372088832 → Wst W (pb b) l' → Calls Tryz.prog 63 #[pb b, .string x.raw] W fun e w' => e = .returned (.tuple #[]) ∧ Wst w' (pb b) (l' ++ countL x.raw.size ++ x.raw.data.toList) ∧ Wfr W w' (pb b)) := fun W l' k1 k2 => wString _ _ x.raw (by omega) (.inr (by omega)) _ k1 k2
  clear h hl h1 h2 h3 hx bA rA hlt hga
  go_enter Tryz.func108, Tryz.ntmps108
  generalize hA : w.alloc (.cells x.cells.toArray 77) = A at *
  go_upto_region 2 with (first | (go_at_call 62; with_reducible refine HP.out.mono ?_; rintro e W1 ⟨rfl, s1, f1⟩; have G1 := hide (G0.out.stepN s1 f1); have F1 := hide f1; have c1 := G1.out.c; have f2 := G1.out.f; clear s1 f1) | (with_reducible refine at_list ?_; refine wpList_boxA rfl _ rfl x.cells.toArray rfl ?_; rw [hA]))
  have G2 := hide (G1.out.set x.place)
  have FB := hide ((FA.out.trans (Wfa.of F1.out)).trans (Wfa.set G1.out.nea (.int .i64 x.place)))
  have R2 : Hid ((W1.setCell ⟨ga, 0, none⟩ (.int .i64 x.place)).heap[w.heap.size]? = some (.cells x.cells.toArray 77 (0, 0))) := by
    show _ = _
    rw [blk_setCell_other _ _ _ _ HNE.out.2, F1.out.block _ (lt_heap R0.out) (by simp [blkOf]; exact fun e => HNE.out.1 e.symm) HROW.out]
    exact R0.out
  clear G1 F1 c1 f2 G0 FA HP cg ca c0
  generalize W1.setCell ⟨ga, 0, none⟩ (.int .i64 x.place) = W2 at *
  have cg := G2.out.wg.c
  have c1 : W2.cell? ⟨w.heap.size, 1, none⟩ = some (.string x.raw) := by rw [cell_of_row _ _ _ _ _ _ R2.out]; rfl
  go_wp2_with (go_at_call 63; refine (HS.out _ _ (by have := HL.out; rw [List.length_append]; omega) G2.out.wg.wb.st).mono ?_; rintro e W3 ⟨rfl, s1, f1⟩; have G3 := hide (G2.out.stepN s1 f1); have FC := hide (FB.out.trans (Wfa.of f1)); clear s1 f1)
  go_end0
  refine ⟨rfl, ?_, FC.out⟩
  have := G3.out
  simpa [rawL, List.append_assoc] using this
end
end Go.Proofs.YtkoidjaaojmcnaaGreat
