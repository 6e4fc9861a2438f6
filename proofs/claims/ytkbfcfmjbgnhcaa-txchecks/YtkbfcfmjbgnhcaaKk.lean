/- tx's parts: outputs: their contract. -/
import Derived.Test.YtkbfcfmjbgnhcaaKj
namespace Go.Proofs.Ytkbfcfmjbgnhcaa
open Go.RowKit
open Go.Deep
set_option linter.unusedVariables false
/-- While an output is taken. -/
structure Pout (w W : World) (b : Nat) (t : ByteArray) (n : Nat) (e : Int) (x : Tu) : Prop where
  px : Px w W b t
  rd : Rd W b t n e
  r1 : W.heap[w.heap.size + 1]? = some (.cells zTu.cells.toArray 52 (0, 0))
  r2 : W.heap[w.heap.size + 1 + 1]? = some (.cells x.cells.toArray 52 (0, 0))
section
variable {w W W' : World} {b : Nat} {t : ByteArray} {n n' : Nat} {e e' : Int} {x : Tu}
theorem Pout.step (h : Pout w W b t n e x) (r : Rd W' b t n' e') (f : Rfr b W W') : Pout w W' b t n' e' x := by
  have := h.px.lt
  exact ⟨h.px.step f, r, (f.block _ (lt_heap h.r1) (by omega)).trans h.r1, (f.block _ (lt_heap h.r2) (by omega)).trans h.r2⟩
theorem Pout.set (h : Pout w W b t n e x) (y : Tu) (i : Nat) (v : Value) (hy : x.cells.toArray.setIfInBounds i v = y.cells.toArray) : Pout w (W.setCell ⟨w.heap.size + 1 + 1, i, none⟩ v) b t n e y := by
  have := h.px.lt
  refine ⟨h.px.set _ _ _ (by omega), h.rd.via (Rfr.setCell _ W i v) (by omega), (blk_setCell_ne W _ i _ v (by omega)).trans h.r1, ?_⟩
  rw [heap_setCell_same W _ i _ _ v h.r2, hy]
theorem Pout.c (h : Pout w W b t n e x) (i : Nat) (v : Value) (hv : x.cells.toArray[i]? = some v) : W.cell? ⟨w.heap.size + 1 + 1, i, none⟩ = some v ∧ W.frozen? ⟨w.heap.size + 1 + 1, i, none⟩ = false := ⟨by rw [cell_of_row _ _ _ _ _ _ h.r2]; exact hv, frozen_of_row W _ _ _ _ h.r2⟩
end
section
set_option maxRecDepth 10000
set_option maxHeartbeats 4000000
variable {w : World} {b : Nat} {t : ByteArray} {n : Nat} {e : Int}
theorem toutput_any (h : Rd w b t n e) (hs : t.size ≤ maxLen) : Calls Try.prog 46 #[px b t] w fun r w' => ∃ (v : Tu) (n' : Nat) (e' : Int), r = .returned (.agg v.cells.toArray) ∧ v.ok ∧ Rd w' b t n' e' ∧ Rfr b w w' ∧ Tk Tu.bytes Tu.ok t n e v n' e' := by
  have b3 := below3 w (.cells #[.string t, .pointer (some ⟨b, 0, none⟩)] 82) (.cells zTu.cells.toArray 52) (.cells zTu.cells.toArray 52)
  obtain ⟨x0, x1, x2⟩ := blk3 w (.cells #[.string t, .pointer (some ⟨b, 0, none⟩)] 82) (.cells zTu.cells.toArray 52) (.cells zTu.cells.toArray 52)
  have P0 : Hid (Pout w _ b t n e zTu) := ⟨⟨Rfr.below b3, x0, h.st.lt⟩, h.below b3, x1, x2⟩
  have HN : Hid (∀ W n e, Rd W b t n e → Calls Try.prog 52 #[.agg #[.string t, .pointer (some ⟨b, 0, none⟩)]] W fun r w' => ∃ (v : UInt64) (n' : Nat) (e' : Int), r = .returned (.int .u64 (v.toNat : Int)) ∧ Rd w' b t n' e' ∧ Rfr b W w' ∧ Tk (fun v : UInt64 => lowL v.toNat 8) (fun _ => True) t n e v n' e') := fun W n e g => tvalue_any g hs
  have HS : Hid (∀ W n e, Rd W b t n e → Calls Try.prog 51 #[.agg #[.string t, .pointer (some ⟨b, 0, none⟩)]] W fun r w' => ∃ (v : ByteArray) (n' : Nat) (e' : Int), r = .returned (.string v) ∧ v.size ≤ 520 ∧ Rd w' b t n' e' ∧ Rfr b W w' ∧ Tk txtL (fun x => x.size ≤ 520) t n e v n' e') := fun W n e g => tscript_any g hs
  clear h hs b3 x0 x1 x2
  unfold px
  have sz1 : (w.alloc (.cells #[.string t, .pointer (some ⟨b, 0, none⟩)] 82)).heap.size = w.heap.size + 1 := by simp
  have sz2 : ((w.alloc (.cells #[.string t, .pointer (some ⟨b, 0, none⟩)] 82)).alloc (.cells zTu.cells.toArray 52)).heap.size = w.heap.size + 1 + 1 := by simp
  go_enter Try.func46, Try.ntmps46
  go_upto_region 2 with ((with_reducible refine at_list ?_); refine wpList_allocA AO rfl rfl ?_)
  try rw [sz1]
  try rw [sz2]
  clear sz1 sz2
  generalize ((w.alloc (.cells #[.string t, .pointer (some ⟨b, 0, none⟩)] 82)).alloc (.cells zTu.cells.toArray 52)).alloc (.cells zTu.cells.toArray 52) = A at *
  generalize hz : zTu = x2 at *
  have hz2 := hide hz
  clear hz
  go_upto_region 3 with (first | (go_at_call 52; refine (HN.out _ _ _ P0.out.rd).mono ?_; rintro r W3 ⟨v2, n2, e2, rfl, g1, f1, t1⟩; have P3 := hide (P0.out.step g1 f1); have T2 := hide t1; clear g1 f1 t1; obtain ⟨c3, f3⟩ := P3.out.c 0 (.int .u64 (x2.val.toNat : Int)) rfl) | ((with_reducible refine at_list ?_); refine wpList_loadS APx _ rfl w.heap.size rfl #[.string t, .pointer (some ⟨b, 0, none⟩)] rfl 82 P0.out.px.row (by rfl) ?_))
  have P4 := hide (P3.out.set { x2 with val := v2 } 0 (.int .u64 (v2.toNat : Int)) rfl)
  generalize W3.setCell ⟨w.heap.size + 1 + 1, 0, none⟩ (.int .u64 (v2.toNat : Int)) = W4 at *
  clear P0 P3 c3 f3
  obtain ⟨x4, hx4⟩ : ∃ x : Tu, x = { x2 with val := v2 } := ⟨_, rfl⟩
  rw [← hx4] at P4
  go_upto_region 4 with (first | (go_at_call 51; refine (HS.out _ _ _ P4.out.rd).mono ?_; rintro r W5 ⟨v3, n3, e3, rfl, z3, g1, f1, t1⟩; have P5 := hide (P4.out.step g1 f1); have T3 := hide t1; have Z3 := hide z3; clear g1 f1 t1 z3; obtain ⟨c3, f3⟩ := P5.out.c 1 (.string x4.lock) rfl) | ((with_reducible refine at_list ?_); refine wpList_loadS APx _ rfl w.heap.size rfl #[.string t, .pointer (some ⟨b, 0, none⟩)] rfl 82 P4.out.px.row (by rfl) ?_))
  have P8 := hide (P5.out.set { x4 with lock := v3 } 1 (.string v3) rfl)
  generalize W5.setCell ⟨w.heap.size + 1 + 1, 1, none⟩ (.string v3) = W8 at *
  clear P4 P5 c3 f3
  obtain ⟨x8, hx8⟩ : ∃ x : Tu, x = { x4 with lock := v3 } := ⟨_, rfl⟩
  rw [← hx8] at P8
  have hx : x8 = ⟨v2, v3⟩ := by subst hx8 hx4; rfl
  clear hx8 hx4
  go_wp2_with ((with_reducible refine at_list ?_); first | (refine wpList_loadA AO rfl _ rfl (w.heap.size + 1 + 1) rfl x8.cells.toArray rfl 52 P8.out.r2 ?_) | (refine wpList_storeA AO rfl _ _ rfl (w.heap.size + 1) x8.cells.toArray rfl x8.all rfl rfl zTu.cells.toArray rfl 52 P8.out.r1 ?_))
  have hlt := P8.out.px.lt
  refine bodyPost_ret (v := .agg x8.cells.toArray) (resA AO Try.results46 _ _ (w.heap.size + 1) 52 _ rfl rfl (setRow_heap _ _ _ _ _ _ P8.out.r1)) rfl ⟨x8, n3, e3, rfl, by rw [hx]; exact Z3.out, ⟨P8.out.rd.le, P8.out.rd.lt, P8.out.rd.st.setRow _ (by omega) _⟩, P8.out.px.fr.setRow _ (by omega) _, by rw [hx]; exact T2.out.out T3.out⟩
end
end Go.Proofs.Ytkbfcfmjbgnhcaa
