/- tx.Take: its contract. -/
import Derived.Test.YtkbfcfmjbgnhcaaKm
namespace Go.Proofs.Ytkbfcfmjbgnhcaa
open Go.RowKit
open Go.Deep
set_option linter.unusedVariables false
/-- Behind the making of the reader: the parts at gp, the reader at b. -/
structure Ptk (A W : World) (b gp : Nat) (t : ByteArray) (n : Nat) (e : Int) : Prop where
  bel : Below A.heap.size A W
  rd : Rd W b t n e
  row : W.heap[gp]? = some (.cells #[.string t, .pointer (some ⟨b, 0, none⟩)] 82 (0, 0))
  ne : b ≠ gp
  fb : A.heap.size ≤ b
  fg : A.heap.size ≤ gp
theorem Ptk.step {A W W' : World} {b gp : Nat} {t : ByteArray} {n n' : Nat} {e e' : Int} (h : Ptk A W b gp t n e) (r : Rd W' b t n' e') (f : Rfr b W W') : Ptk A W' b gp t n' e' := ⟨h.bel.trans (f.to_below h.fb h.bel.size), r, (f.block _ (lt_heap h.row) (fun q => h.ne q.symm)).trans h.row, h.ne, h.fb, h.fg⟩
theorem Ptk.next {A W W' : World} {b gp : Nat} {t : ByteArray} {n : Nat} {e : Int} (h : Ptk A W b gp t n e) (k : Below W.heap.size W W') : Ptk A W' b gp t n e := ⟨h.bel.trans (k.mono h.bel.size), h.rd.below k, (k.block _ (lt_heap h.row)).trans h.row, h.ne, h.fb, h.fg⟩
theorem Ptk.c1 {A W : World} {b gp : Nat} {t : ByteArray} {n : Nat} {e : Int} (h : Ptk A W b gp t n e) : W.cell? ⟨gp, 1, none⟩ = some (.pointer (some ⟨b, 0, none⟩)) := by rw [cell_of_row _ _ _ _ _ _ h.row]; rfl
theorem px_one (t : ByteArray) (b : Nat) : (#[Value.string t, .pointer (some ⟨b, 0, none⟩)] : Array Value).all (·.oneCell') = true := by simp [Value.oneCell']
section
set_option maxRecDepth 10000
set_option maxHeartbeats 4000000
theorem take_any (s : ByteArray) (a : Nat) (w : World) (hs : s.size ≤ maxLen) (ha : a ≤ s.size) : Calls Try.prog 26 #[.string s, .int .i64 (a : Int)] w fun r w' => ∃ (m : Tm) (ai : Option Addr) (ci : Nat) (ao : Option Addr) (co : Nat) (n' : Nat) (e' : Int), Below w.heap.size w w' ∧ Tk Tm.bytes Tm.ok (s.extract a s.size) 0 0 m n' e' ∧ ((e' = 0 ∧ r = .returned (.tuple #[.agg (m.cells ai ci ao co), .int .i64 ((a + n' : Nat) : Int), .int .i64 0]) ∧ LO w w' m ai ci ao co ∧ m.ok) ∨ (e' ≠ 0 ∧ r = .returned (.tuple #[.agg (zT.cells none 0 none 0), .int .i64 0, .int .i64 e']))) := by
  have hA0 := heap_alloc_last w (.cells (zT.cells none 0 none 0) 26)
  have bA : Below w.heap.size w (w.alloc (.cells (zT.cells none 0 none 0) 26)) := (Below.refl _ _).alloc (Nat.le_refl _) _
  have RA := hide hA0
  have BA := hide bA
  have SA : Hid (w.heap.size < (w.alloc (.cells (zT.cells none 0 none 0) 26)).heap.size) := lt_heap hA0
  have g1 : (0 : Int) ≤ (a : Int) := by omega
  have g2 : (a : Int) ≤ (s.size : Int) := by omega
  have g3 : decide (s.size < a) = false := decide_eq_false (by omega)
  have hz : (s.extract a s.size).size = s.size - a := by simp
  have hs2 : (s.extract a s.size).size ≤ maxLen := by omega
  have HS := hide (And.intro (And.intro hs ha) hz)
  have HX := hide (fun W b n e (g : Rd W b (s.extract a s.size) n e) => ttx_any g hs2)
  have HE : Hid (∀ W b n e, Rd W b (s.extract a s.size) n e → Calls Try.prog 34 #[.pointer (some ⟨b, 0, none⟩)] W fun r w' => r = .returned (.int .i64 e) ∧ w' = W) := fun W b n e g => rErr b _ W n e g.st
  have HT : Hid (∀ W b n e, Rd W b (s.extract a s.size) n e → Calls Try.prog 35 #[.pointer (some ⟨b, 0, none⟩)] W fun r w' => r = .returned (.int .i64 (n : Int)) ∧ w' = W) := fun W b n e g => rAt b _ W n e g.st
  have HR := hide (fun W => newReader_any (s.extract a s.size) W)
  have HR0 : Hid (∀ W : World, Rd (W.alloc (.cells #[.string (s.extract a s.size), .int .i64 0, .int .i64 0] 93)) W.heap.size (s.extract a s.size) 0 0) := fun W => ⟨Nat.zero_le _, Nat.zero_le _, heap_alloc_last W _⟩
  clear hs ha hA0 bA hz hs2
  generalize hA : w.alloc (.cells (zT.cells none 0 none 0) 26) = A at *
  go_enter Try.func26, Try.ntmps26
  go_upto_region 3 with ((with_reducible refine at_list ?_); refine wpList_allocA AT rfl rfl ?_)
  try rw [hA]
  clear hA g3
  unfold px at *
  go_cut [7] from 19 to 26 (fun s7 wx => ∃ b gp, s7 = .pointer (some ⟨gp, 0, none⟩) ∧ Hid (Ptk A wx b gp (s.extract a s.size) 0 0))
  case first =>
    refine wp_region_held_drew (S := fun W => True) (by kernel_rfl) trivial (fun hH => ?_)
    have BD : Hid (Below A.heap.size A A.drew) := (Below.refl _ _).drew
    generalize A.drew = W1 at *
    refine wpAnyH_take (i := 0) (v := (.string s)) rfl (by kernel_rfl) (by kernel_rfl) (by kernel_rfl) (fun _ _ _ h => h) (yl_move (by rfl) _ (by rfl) _ (by rfl)) hH ?_
    change wpAnyH _ _ _ _ _ _ _ (Act.put _ (some 19) _) _
    simp only [Act.put, List.setIfInBounds_toArray, List.set_cons_zero, List.set_cons_succ]
    refine wpAnyH_take (i := 1) (v := (.int .i64 (a : Int))) rfl (by kernel_rfl) (by kernel_rfl) (by kernel_rfl) (fun _ _ _ h => h) (yl_move (by rfl) _ (by rfl) _ (by rfl)) hH ?_
    change wpAnyH _ _ _ _ _ _ _ (Act.put _ (some 20) _) _
    simp only [Act.put, List.setIfInBounds_toArray, List.set_cons_zero, List.set_cons_succ]
    refine wpAnyH_take (i := 2) (v := (.string (s.extract a s.size))) rfl (by kernel_rfl) (by kernel_rfl) (by kernel_rfl) (fun _ _ _ h => h) (.inl ⟨by rfl, fun W _ => by go_simp⟩) hH ?_
    change wpAnyH _ _ _ _ _ _ _ (Act.put _ (some 21) _) _
    simp only [Act.put, List.setIfInBounds_toArray, List.set_cons_zero, List.set_cons_succ]
    refine wpAnyH_take (i := 3) (v := (.string s)) rfl (by kernel_rfl) (by kernel_rfl) (by kernel_rfl) (fun _ _ _ h => h) (yl_move (by rfl) _ (by rfl) _ (by rfl)) hH ?_
    change wpAnyH _ _ _ _ _ _ _ (Act.put _ (some 22) _) _
    simp only [Act.put, List.setIfInBounds_toArray, List.set_cons_zero, List.set_cons_succ]
    refine wpAnyH_take (i := 4) (v := (.int .i64 (a : Int))) rfl (by kernel_rfl) (by kernel_rfl) (by kernel_rfl) (fun _ _ _ h => h) (yl_move (by rfl) _ (by rfl) _ (by rfl)) hH ?_
    change wpAnyH _ _ _ _ _ _ _ (Act.put _ (some 23) _) _
    simp only [Act.put, List.setIfInBounds_toArray, List.set_cons_zero, List.set_cons_succ]
    refine wpAnyH_take (i := 5) (v := (.string (s.extract a s.size))) rfl (by kernel_rfl) (by kernel_rfl) (by kernel_rfl) (fun _ _ _ h => h) (.inl ⟨by rfl, fun W _ => by go_simp⟩) hH ?_
    change wpAnyH _ _ _ _ _ _ _ (Act.put _ (some 24) _) _
    simp only [Act.put, List.setIfInBounds_toArray, List.set_cons_zero, List.set_cons_succ]
    generalize hT : s.extract a s.size = t at *
    refine wpAnyH_ready (rs := [6, 8]) (by kernel_rfl) (by simp) (AllReadyH.cons rfl (fun K1 hK1 => ?_) (AllReadyH.cons rfl (fun K1 hK1 => ?_) AllReadyH.nil))
    · go_simp
      refine (HR.out _).mono ?_
      rintro r W2 ⟨rfl, rfl⟩
      have R2 := hide (HR0.out W1)
      have B2 : Hid (Below A.heap.size A (W1.alloc (.cells #[.string t, .int .i64 0, .int .i64 0] 93))) := BD.out.alloc BD.out.size _
      have F2 := hide (show A.heap.size ≤ W1.heap.size from BD.out.size)
      generalize W1.alloc (.cells #[.string t, .int .i64 0, .int .i64 0] 93) = W2 at *
      generalize W1.heap.size = b at *
      refine hK1.out _ _ trivial (fun hH => ?_)
      clear hK1
      refine wpAnyH_take (i := 7) (v := (.agg #[.string t, .pointer (some ⟨b, 0, none⟩)])) rfl (by kernel_rfl) (by kernel_rfl) (by kernel_rfl) (fun _ _ _ h => h) (.inl ⟨by rfl, fun W _ => by go_simp⟩) hH ?_
      change wpAnyH _ _ _ _ _ _ _ (Act.put _ (some 26) _) _
      simp only [Act.put, List.setIfInBounds_toArray, List.set_cons_zero, List.set_cons_succ]
      refine wpAnyH_ready (rs := [8]) (by kernel_rfl) (by simp) (AllReadyH.cons rfl (fun K1 hK1 => ?_) AllReadyH.nil)
      have ba := (Below.refl W2.heap.size W2).alloc (Nat.le_refl _) (.cells #[.string ⟨#[]⟩, .pointer none] 82)
      have R3 := hide (R2.out.below ba)
      have B3 := hide (B2.out.trans (ba.mono B2.out.size))
      have G3 := hide (heap_alloc_last W2 (.cells #[.string ⟨#[]⟩, .pointer none] 82))
      have F3 := hide (And.intro (show A.heap.size ≤ W2.heap.size from B2.out.size) (show b < W2.heap.size from R2.out.st.lt))
      refine stepAllocA APx (by rfl) (by rfl) ?_
      refine hK1.out _ _ trivial (fun hH => ?_)
      clear hK1 ba
      change wpAnyH _ _ _ _ _ _ _ (Act.put _ (some 7) _) _
      simp only [Act.put, List.setIfInBounds_toArray, List.set_cons_zero, List.set_cons_succ]
      generalize W2.alloc (.cells #[.string ⟨#[]⟩, .pointer none] 82) = W3 at *
      generalize W2.heap.size = ga at *
      refine wpAnyH_ready (rs := [9]) (by kernel_rfl) (by simp) (AllReadyH.cons rfl (fun K1 hK1 => ?_) AllReadyH.nil)
      refine stepStoreA APx (by rfl) _ _ (by rfl) ga #[.string t, .pointer (some ⟨b, 0, none⟩)] rfl (px_one t b) (by rfl) (by rfl) #[.string ⟨#[]⟩, .pointer none] rfl 82 G3.out ?_
      have PT : Hid (Ptk A (W3.setRow ga #[.string t, .pointer (some ⟨b, 0, none⟩)]) b ga t 0 0) := ⟨below_setRow B3.out F3.out.1 _, ⟨R3.out.le, R3.out.lt, R3.out.st.setRow _ (by have := F3.out.2; omega) _⟩, setRow_heap _ _ _ _ _ _ G3.out, by have := F3.out.2; omega, F2.out, F3.out.1⟩
      refine hK1.out _ _ trivial (fun hH => ?_)
      clear hK1
      refine wpAnyH_done (by kernel_rfl) ?_ _
      go_wp2_with fail
      go_meet
      exact ⟨b, ga, rfl, PT.out⟩
    · have ba := (Below.refl W1.heap.size W1).alloc (Nat.le_refl _) (.cells #[.string ⟨#[]⟩, .pointer none] 82)
      have B3 := hide (BD.out.trans (ba.mono BD.out.size))
      have G3 := hide (heap_alloc_last W1 (.cells #[.string ⟨#[]⟩, .pointer none] 82))
      have F3 := hide (show A.heap.size ≤ W1.heap.size from BD.out.size)
      refine stepAllocA APx (by rfl) (by rfl) ?_
      refine hK1.out _ _ trivial (fun hH => ?_)
      clear hK1 ba
      change wpAnyH _ _ _ _ _ _ _ (Act.put _ (some 7) _) _
      simp only [Act.put, List.setIfInBounds_toArray, List.set_cons_zero, List.set_cons_succ]
      generalize W1.alloc (.cells #[.string ⟨#[]⟩, .pointer none] 82) = W2 at *
      generalize W1.heap.size = ga at *
      refine wpAnyH_ready (rs := [6]) (by kernel_rfl) (by simp) (AllReadyH.cons rfl (fun K1 hK1 => ?_) AllReadyH.nil)
      go_simp
      refine (HR.out _).mono ?_
      rintro r W3 ⟨rfl, rfl⟩
      have R2 := hide (HR0.out W2)
      have bb := (Below.refl W2.heap.size W2).alloc (Nat.le_refl _) (.cells #[.string t, .int .i64 0, .int .i64 0] 93)
      have B4 := hide (B3.out.trans (bb.mono B3.out.size))
      have G4 := hide ((bb.block _ (lt_heap G3.out)).trans G3.out)
      have F4 := hide (And.intro (show A.heap.size ≤ W2.heap.size from B3.out.size) (show ga < W2.heap.size from lt_heap G3.out))
      clear bb
      generalize W2.alloc (.cells #[.string t, .int .i64 0, .int .i64 0] 93) = W3 at *
      generalize W2.heap.size = b at *
      refine hK1.out _ _ trivial (fun hH => ?_)
      clear hK1
      refine wpAnyH_take (i := 7) (v := (.agg #[.string t, .pointer (some ⟨b, 0, none⟩)])) rfl (by kernel_rfl) (by kernel_rfl) (by kernel_rfl) (fun _ _ _ h => h) (.inl ⟨by rfl, fun W _ => by go_simp⟩) hH ?_
      change wpAnyH _ _ _ _ _ _ _ (Act.put _ (some 26) _) _
      simp only [Act.put, List.setIfInBounds_toArray, List.set_cons_zero, List.set_cons_succ]
      refine wpAnyH_ready (rs := [9]) (by kernel_rfl) (by simp) (AllReadyH.cons rfl (fun K1 hK1 => ?_) AllReadyH.nil)
      refine stepStoreA APx (by rfl) _ _ (by rfl) ga #[.string t, .pointer (some ⟨b, 0, none⟩)] rfl (px_one t b) (by rfl) (by rfl) #[.string ⟨#[]⟩, .pointer none] rfl 82 G4.out ?_
      have PT : Hid (Ptk A (W3.setRow ga #[.string t, .pointer (some ⟨b, 0, none⟩)]) b ga t 0 0) := ⟨below_setRow B4.out F3.out _, ⟨R2.out.le, R2.out.lt, R2.out.st.setRow _ (by have := F4.out.2; omega) _⟩, setRow_heap _ _ _ _ _ _ G4.out, by have := F4.out.2; omega, F4.out.1, F3.out⟩
      refine hK1.out _ _ trivial (fun hH => ?_)
      clear hK1
      refine wpAnyH_done (by kernel_rfl) ?_ _
      go_wp2_with fail
      go_meet
      exact ⟨b, ga, rfl, PT.out⟩
  obtain ⟨b, gp, rfl, P0⟩ := hcut
  generalize wc = W1 at *
  clear HR HR0
  go_upto_region 5 with (first | (go_at_call 33; refine (HX.out _ _ _ _ P0.out.rd).mono ?_; rintro r W2 ⟨m, ai, ci, ao, co, n1, e1, rfl, l1, ok1, g1, f1, t1⟩; have P1 := hide (P0.out.step g1 f1); have L1 := hide l1; have OK1 := hide ok1; have T1 := hide t1; clear g1 f1 t1 l1 ok1) | ((with_reducible refine at_list ?_); first | refine wpList_loadS APx _ rfl gp rfl #[.string (s.extract a s.size), .pointer (some ⟨b, 0, none⟩)] rfl 82 P0.out.row (by rfl) ?_ | refine wpList_allocA AT rfl rfl ?_ | refine wpList_store_newA AT rfl _ _ rfl _ rfl (m.cells ai ci ao co) rfl (m.one _ _ _ _) rfl rfl ?_))
  have ba := (Below.refl W2.heap.size W2).alloc (Nat.le_refl _) (.cells (m.cells ai ci ao co) 26)
  have P2 := hide (P1.out.next ba)
  have L2 := hide (L1.out.below ba)
  have G2 := hide (heap_alloc_last W2 (.cells (m.cells ai ci ao co) 26))
  have NW : Hid (w.heap.size < W2.heap.size) := Nat.lt_of_lt_of_le SA.out P1.out.bel.size
  have W1S : Hid (A.heap.size ≤ W1.heap.size) := P0.out.bel.size
  clear ba P0 P1 L1 HX
  generalize W2.alloc (.cells (m.cells ai ci ao co) 26) = W3 at *
  generalize W2.heap.size = g8 at *
  have R3 := hide ((P2.out.bel.block _ SA.out).trans RA.out)
  have B3 := hide (BA.out.trans (P2.out.bel.mono BA.out.size))
  clear RA BA
  have c1 := P2.out.c1
  go_upto_region 6 with (go_at_call 34; refine (HE.out _ _ _ _ P2.out.rd).mono ?_; rintro r W4 ⟨rfl, rfl⟩)
  by_cases he : e1 = 0
  · subst he
    go_upto_region 8 with fail
    refine wp_region_held_drew (S := fun W => W.heap[gp]? = some (.cells #[.string (s.extract a s.size), .pointer (some ⟨b, 0, none⟩)] 82 (0, 0)) ∧ W.heap[g8]? = some (.cells (m.cells ai ci ao co) 26 (0, 0))) (by kernel_rfl) ⟨P2.out.row, G2.out⟩ (fun hH => ?_)
    have P3 : Hid (Ptk A W4.drew b gp (s.extract a s.size) n1 0) := P2.out.next ((Below.refl _ _).drew)
    have L3 := hide (L2.out.below ((Below.refl _ _).drew))
    have G3 : Hid (W4.drew.heap[g8]? = some (.cells (m.cells ai ci ao co) 26 (0, 0))) := G2.out
    have R4 : Hid (W4.drew.heap[w.heap.size]? = some (.cells (zT.cells none 0 none 0) 26 (0, 0))) := R3.out
    have B4 : Hid (Below w.heap.size w W4.drew) := B3.out.drew
    have e5 : IntKind.i64.wrap ((a : Int) + (n1 : Int)) = ((a + n1 : Nat) : Int) := by
      have h1 := HS.out
      have h2 := P2.out.rd.le
      unfold maxLen at h1
      rw [wrapI _ (by omega) (by omega)]
      omega
    clear P2 L2 G2 R3 B3 c1 g1 g2
    generalize W4.drew = W5 at *
    refine wpAnyH_take (i := 0) (v := (.agg (m.cells ai ci ao co))) rfl (by kernel_rfl) (by kernel_rfl) (by kernel_rfl) (fun _ _ _ h => h) (yl_load (by rfl) _ (by rfl) _ (m.cells ai ci ao co) (by rfl) (fun W hS => ld_row AT rfl hS.2)) hH ?_
    change wpAnyH _ _ _ _ _ _ _ (Act.put _ (some 36) _) _
    simp only [Act.put, List.setIfInBounds_toArray, List.set_cons_zero, List.set_cons_succ]
    refine wpAnyH_take (i := 1) (v := (.int .i64 (a : Int))) rfl (by kernel_rfl) (by kernel_rfl) (by kernel_rfl) (fun _ _ _ h => h) (yl_move (by rfl) _ (by rfl) _ (by rfl)) hH ?_
    change wpAnyH _ _ _ _ _ _ _ (Act.put _ (some 37) _) _
    simp only [Act.put, List.setIfInBounds_toArray, List.set_cons_zero, List.set_cons_succ]
    refine wpAnyH_take (i := 2) (v := (.pointer (some ⟨gp, 1, none⟩))) rfl (by kernel_rfl) (by kernel_rfl) (by kernel_rfl) (fun _ _ _ h => h) (.inl ⟨by rfl, fun W _ => by go_simp⟩) hH ?_
    change wpAnyH _ _ _ _ _ _ _ (Act.put _ (some 38) _) _
    simp only [Act.put, List.setIfInBounds_toArray, List.set_cons_zero, List.set_cons_succ]
    refine wpAnyH_take (i := 3) (v := (.pointer (some ⟨b, 0, none⟩))) rfl (by kernel_rfl) (by kernel_rfl) (by kernel_rfl) (fun _ _ _ h => h) (.inl ⟨by rfl, fun W hS => by have c4 := (show W.cell? ⟨gp, 1, none⟩ = some (.pointer (some ⟨b, 0, none⟩)) by rw [cell_of_row _ _ _ _ _ _ hS.1]; rfl); go_simp⟩) hH ?_
    change wpAnyH _ _ _ _ _ _ _ (Act.put _ (some 39) _) _
    simp only [Act.put, List.setIfInBounds_toArray, List.set_cons_zero, List.set_cons_succ]
    refine wpAnyH_ready (rs := [4]) (by kernel_rfl) (by simp) (AllReadyH.cons rfl (fun K1 hK1 => ?_) AllReadyH.nil)
    go_simp
    refine (HT.out _ _ _ _ P3.out.rd).mono ?_
    rintro r W6 ⟨rfl, rfl⟩
    refine hK1.out _ _ ⟨P3.out.row, G3.out⟩ (fun hH => ?_)
    clear hK1
    refine wpAnyH_take (i := 5) (v := (.int .i64 ((a + n1 : Nat) : Int))) rfl (by kernel_rfl) (by kernel_rfl) (by kernel_rfl) (fun _ _ _ h => h) (.inl ⟨by rfl, fun W _ => by go_simp⟩) hH ?_
    change wpAnyH _ _ _ _ _ _ _ (Act.put _ (some 41) _) _
    simp only [Act.put, List.setIfInBounds_toArray, List.set_cons_zero, List.set_cons_succ]
    refine wpAnyH_ready (rs := [6]) (by kernel_rfl) (by simp) (AllReadyH.cons rfl (fun K1 hK1 => ?_) AllReadyH.nil)
    refine stepStoreA AT (by rfl) _ _ (by rfl) w.heap.size (m.cells ai ci ao co) rfl (m.one _ _ _ _) (by rfl) (by rfl) (zT.cells none 0 none 0) rfl 26 R4.out ?_
    have k1 := (setRow_other W6 w.heap.size gp (m.cells ai ci ao co) (by have := P3.out.fg; have := SA.out; omega)).trans P3.out.row
    have k2 := (setRow_other W6 w.heap.size g8 (m.cells ai ci ao co) (by have := NW.out; omega)).trans G3.out
    have R5 := hide (setRow_heap W6 w.heap.size _ (m.cells ai ci ao co) _ _ R4.out)
    have L5 := hide (L3.out.setRow w.heap.size (Nat.lt_of_lt_of_le SA.out W1S.out) (m.cells ai ci ao co))
    have B5 := hide (below_setRow B4.out (Nat.le_refl w.heap.size) (m.cells ai ci ao co))
    generalize W6.setRow w.heap.size (m.cells ai ci ao co) = W7 at *
    refine hK1.out _ _ ⟨k1, k2⟩ (fun hH => ?_)
    clear hK1
    refine wpAnyH_ready (rs := [7]) (by kernel_rfl) (by simp) (AllReadyH.cons rfl (fun K1 hK1 => ?_) AllReadyH.nil)
    go_simp
    refine hK1.out _ _ ⟨k1, k2⟩ (fun hH => ?_)
    clear hK1
    refine wpAnyH_ready (rs := [8]) (by kernel_rfl) (by simp) (AllReadyH.cons rfl (fun K1 hK1 => ?_) AllReadyH.nil)
    go_simp
    refine hK1.out _ _ ⟨k1, k2⟩ (fun hH => ?_)
    clear hK1
    refine wpAnyH_done (by kernel_rfl) ?_ _
    clear hH k1 k2
    go_wp2
    refine bodyPost_ret (v := .tuple #[.agg (m.cells ai ci ao co), .int .i64 ((a + n1 : Nat) : Int), .int .i64 0]) (resA3 AT Try.results26 _ _ w.heap.size 26 _ rfl rfl R5.out _ rfl _ rfl) rfl ⟨m, ai, ci, ao, co, n1, 0, B5.out, T1.out, .inl ⟨rfl, rfl, ⟨L5.out.xi, (fun g hg => Nat.le_trans (Nat.le_trans (Nat.le_of_lt SA.out) W1S.out) (L5.out.fi g hg)), L5.out.xo, (fun g hg => Nat.le_trans (Nat.le_trans (Nat.le_of_lt SA.out) W1S.out) (L5.out.fo g hg))⟩, OK1.out⟩⟩
  · have hne : (e1 != 0) = true := by simp [he]
    have NE := hide he
    clear he
    go_wp2_with ((with_reducible refine at_list ?_); first | refine wpList_buildA AT rfl rfl ?_ | (refine wpList_storeA AT rfl _ _ rfl w.heap.size (zT.cells none 0 none 0) rfl (zT.one _ _ _ _) rfl rfl (zT.cells none 0 none 0) rfl 26 R3.out ?_))
    refine bodyPost_ret (v := .tuple #[.agg (zT.cells none 0 none 0), .int .i64 0, .int .i64 e1]) (resA3 AT Try.results26 _ _ w.heap.size 26 _ rfl rfl (setRow_heap _ _ _ _ _ _ R3.out) _ rfl _ rfl) rfl ⟨m, ai, ci, ao, co, n1, e1, below_setRow B3.out (Nat.le_refl _) _, T1.out, .inr ⟨NE.out, rfl⟩⟩
end
end Go.Proofs.Ytkbfcfmjbgnhcaa
