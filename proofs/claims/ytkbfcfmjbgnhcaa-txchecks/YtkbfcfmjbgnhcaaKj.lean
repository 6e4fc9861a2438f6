/- tx's parts: inputs and outputs: their contracts. -/
import Derived.Test.YtkbfcfmjbgnhcaaKi
namespace Go.Proofs.Ytkbfcfmjbgnhcaa
open Go.RowKit
open Go.Deep
set_option linter.unusedVariables false
/-- While an input is taken: the parts, the answer's place, the input so far. -/
structure Pin (w W : World) (b : Nat) (t : ByteArray) (n : Nat) (e : Int) (x : Ti) : Prop where
  px : Px w W b t
  rd : Rd W b t n e
  r1 : W.heap[w.heap.size + 1]? = some (.cells zTi.cells.toArray 48 (0, 0))
  r2 : W.heap[w.heap.size + 1 + 1]? = some (.cells x.cells.toArray 48 (0, 0))
theorem blk_setCell_ne (w : World) (g i k : Nat) (v : Value) (h : k ≠ g) : (w.setCell ⟨g, i, none⟩ v).heap[k]? = w.heap[k]? := blk_setCell_other w ⟨g, i, none⟩ v k h
section
variable {w W W' : World} {b : Nat} {t : ByteArray} {n n' : Nat} {e e' : Int} {x : Ti}
theorem Px.set (h : Px w W b t) (g i : Nat) (v : Value) (hg : w.heap.size < g) : Px w (W.setCell ⟨g, i, none⟩ v) b t := ⟨h.fr.via (Rfr.setCell g W i v) (by omega), (blk_setCell_ne W g i _ v (by omega)).trans h.row, h.lt⟩
theorem Px.sets (h : Px w W b t) (g i : Nat) (v : List Value) (hg : w.heap.size < g) : Px w (W.setCells g i v) b t := ⟨h.fr.via (Rfr.setCells g v i W) (by omega), ((Rfr.setCells g v i W).block _ (lt_heap h.row) (by omega)).trans h.row, h.lt⟩
theorem Rd.via {g : Nat} (h : Rd W b t n e) (f : Rfr g W W') (hg : b ≠ g) : Rd W' b t n e := ⟨h.le, h.lt, (f.block _ h.st.lt hg).trans h.st⟩
theorem Pin.step (h : Pin w W b t n e x) (r : Rd W' b t n' e') (f : Rfr b W W') : Pin w W' b t n' e' x := by
  have := h.px.lt
  exact ⟨h.px.step f, r, (f.block _ (lt_heap h.r1) (by omega)).trans h.r1, (f.block _ (lt_heap h.r2) (by omega)).trans h.r2⟩
theorem Pin.set (h : Pin w W b t n e x) (y : Ti) (i : Nat) (v : Value) (hy : x.cells.toArray.setIfInBounds i v = y.cells.toArray) : Pin w (W.setCell ⟨w.heap.size + 1 + 1, i, none⟩ v) b t n e y := by
  have := h.px.lt
  refine ⟨h.px.set _ _ _ (by omega), h.rd.via (Rfr.setCell _ W i v) (by omega), (blk_setCell_ne W _ i _ v (by omega)).trans h.r1, ?_⟩
  rw [heap_setCell_same W _ i _ _ v h.r2, hy]
theorem Pin.sets (h : Pin w W b t n e x) (y : Ti) (hy : y.idx = x.idx ∧ y.key = x.key ∧ y.seq = x.seq) : Pin w (W.setCells (w.heap.size + 1 + 1) 0 (cellsL y.hash)) b t n e y := by
  have := h.px.lt
  refine ⟨h.px.sets _ _ _ (by omega), h.rd.via (Rfr.setCells _ _ 0 W) (by omega), ((Rfr.setCells _ _ 0 W).block _ (lt_heap h.r1) (by omega)).trans h.r1, ?_⟩
  have q := row_setCells [.int .u32 (x.idx.toNat : Int), .string x.key, .int .u32 (x.seq.toNat : Int)] (w.heap.size + 1 + 1) 48 (cellsL y.hash) (cellsL x.hash) [] W h.r2 (by rw [cellsL_len, cellsL_len, x.hh, y.hh])
  rw [← hy.1, ← hy.2.1, ← hy.2.2] at q
  exact q
theorem Ti.set32 (x : Ti) (v : UInt32) : x.cells.toArray.setIfInBounds 32 (.int .u32 (v.toNat : Int)) = ({ x with idx := v } : Ti).cells.toArray := by
  have h : (cellsL x.hash).length = 32 := by rw [cellsL_len, x.hh]
  rw [List.setIfInBounds_toArray, Ti.cells, List.set_append_right _ _ (by omega), h]; rfl
theorem Ti.set33 (x : Ti) (v : ByteArray) : x.cells.toArray.setIfInBounds 33 (.string v) = ({ x with key := v } : Ti).cells.toArray := by
  have h : (cellsL x.hash).length = 32 := by rw [cellsL_len, x.hh]
  rw [List.setIfInBounds_toArray, Ti.cells, List.set_append_right _ _ (by omega), h]; rfl
theorem Ti.set34 (x : Ti) (v : UInt32) : x.cells.toArray.setIfInBounds 34 (.int .u32 (v.toNat : Int)) = ({ x with seq := v } : Ti).cells.toArray := by
  have h : (cellsL x.hash).length = 32 := by rw [cellsL_len, x.hh]
  rw [List.setIfInBounds_toArray, Ti.cells, List.set_append_right _ _ (by omega), h]; rfl
theorem Pin.there (h : Pin w W b t n e x) : W.there (w.heap.size + 1 + 1) 0 (hc x.hash).size := fun j hj => by
  refine ⟨?_, frozen_of_row W _ _ _ _ h.r2⟩
  rw [hc_size, x.hh] at hj
  rw [cell_of_row _ _ _ _ _ _ h.r2, Array.getElem?_eq_getElem (by rw [x.size]; omega)]
  rfl
theorem Pin.c (h : Pin w W b t n e x) (i : Nat) (v : Value) (hv : x.cells.toArray[i]? = some v) : W.cell? ⟨w.heap.size + 1 + 1, i, none⟩ = some v ∧ W.frozen? ⟨w.heap.size + 1 + 1, i, none⟩ = false := ⟨by rw [cell_of_row _ _ _ _ _ _ h.r2]; exact hv, frozen_of_row W _ _ _ _ h.r2⟩
end
theorem Tk.inp {t : ByteArray} {n n1 n2 n3 n4 : Nat} {e e1 e2 e3 e4 : Int} {v1 : Id32} {v2 : UInt32} {v3 : ByteArray} {v4 : UInt32} (a : Tk (fun v : Id32 => v.1) (fun _ => True) t n e v1 n1 e1) (b : Tk (fun v : UInt32 => lowL v.toNat 4) (fun _ => True) t n1 e1 v2 n2 e2) (c : Tk txtL (fun x => x.size ≤ 520) t n2 e2 v3 n3 e3) (d : Tk (fun v : UInt32 => lowL v.toNat 4) (fun _ => True) t n3 e3 v4 n4 e4) : Tk Ti.bytes Ti.ok t n e ⟨v1.1, v2, v3, v4, v1.2⟩ n4 e4 :=
  (a.seq (b.seq (c.seq d))).conv (fun p => (⟨p.1.1, p.2.1, p.2.2.1, p.2.2.2, p.1.2⟩ : Ti)) (fun z _ => rfl) (fun z hz => hz.2.2.1) (fun y hy => ⟨(⟨y.hash, y.hh⟩, y.idx, y.key, y.seq), rfl, trivial, trivial, hy, trivial⟩)
theorem Tk.out {t : ByteArray} {n n1 n2 : Nat} {e e1 e2 : Int} {v1 : UInt64} {v2 : ByteArray} (a : Tk (fun v : UInt64 => lowL v.toNat 8) (fun _ => True) t n e v1 n1 e1) (c : Tk txtL (fun x => x.size ≤ 520) t n1 e1 v2 n2 e2) : Tk Tu.bytes Tu.ok t n e ⟨v1, v2⟩ n2 e2 :=
  (a.seq c).conv (fun p => (⟨p.1, p.2⟩ : Tu)) (fun z _ => rfl) (fun z hz => hz.2) (fun y hy => ⟨(y.val, y.lock), rfl, trivial, hy⟩)
section
set_option maxRecDepth 10000
set_option maxHeartbeats 4000000
variable {w : World} {b : Nat} {t : ByteArray} {n : Nat} {e : Int}
theorem tinput_any (h : Rd w b t n e) (hs : t.size ≤ maxLen) : Calls Try.prog 44 #[px b t] w fun r w' => ∃ (v : Ti) (n' : Nat) (e' : Int), r = .returned (.agg v.cells.toArray) ∧ v.ok ∧ Rd w' b t n' e' ∧ Rfr b w w' ∧ Tk Ti.bytes Ti.ok t n e v n' e' := by
  have b3 := below3 w (.cells #[.string t, .pointer (some ⟨b, 0, none⟩)] 82) (.cells zTi.cells.toArray 48) (.cells zTi.cells.toArray 48)
  obtain ⟨x0, x1, x2⟩ := blk3 w (.cells #[.string t, .pointer (some ⟨b, 0, none⟩)] 82) (.cells zTi.cells.toArray 48) (.cells zTi.cells.toArray 48)
  have P0 : Hid (Pin w _ b t n e zTi) := ⟨⟨Rfr.below b3, x0, h.st.lt⟩, h.below b3, x1, x2⟩
  have HD : Hid (∀ W n e, Rd W b t n e → Calls Try.prog 50 #[.agg #[.string t, .pointer (some ⟨b, 0, none⟩)]] W fun r w' => ∃ (v : Id32) (n' : Nat) (e' : Int), r = .returned (.agg (hc v.1)) ∧ Rd w' b t n' e' ∧ Rfr b W w' ∧ Tk (fun v : Id32 => v.1) (fun _ => True) t n e v n' e') := fun W n e g => tid_any g hs
  have HN : Hid (∀ W n e, Rd W b t n e → Calls Try.prog 42 #[.agg #[.string t, .pointer (some ⟨b, 0, none⟩)]] W fun r w' => ∃ (v : UInt32) (n' : Nat) (e' : Int), r = .returned (.int .u32 (v.toNat : Int)) ∧ Rd w' b t n' e' ∧ Rfr b W w' ∧ Tk (fun v : UInt32 => lowL v.toNat 4) (fun _ => True) t n e v n' e') := fun W n e g => tnumber_any g hs
  have HS : Hid (∀ W n e, Rd W b t n e → Calls Try.prog 51 #[.agg #[.string t, .pointer (some ⟨b, 0, none⟩)]] W fun r w' => ∃ (v : ByteArray) (n' : Nat) (e' : Int), r = .returned (.string v) ∧ v.size ≤ 520 ∧ Rd w' b t n' e' ∧ Rfr b W w' ∧ Tk txtL (fun x => x.size ≤ 520) t n e v n' e') := fun W n e g => tscript_any g hs
  clear h hs b3 x0 x1 x2
  unfold px
  have sz1 : (w.alloc (.cells #[.string t, .pointer (some ⟨b, 0, none⟩)] 82)).heap.size = w.heap.size + 1 := by simp
  have sz2 : ((w.alloc (.cells #[.string t, .pointer (some ⟨b, 0, none⟩)] 82)).alloc (.cells zTi.cells.toArray 48)).heap.size = w.heap.size + 1 + 1 := by simp
  go_enter Try.func44, Try.ntmps44
  go_upto_region 2 with ((with_reducible refine at_list ?_); refine wpList_allocA AI rfl rfl ?_)
  try rw [sz1]
  try rw [sz2]
  clear sz1 sz2
  generalize ((w.alloc (.cells #[.string t, .pointer (some ⟨b, 0, none⟩)] 82)).alloc (.cells zTi.cells.toArray 48)).alloc (.cells zTi.cells.toArray 48) = A at *
  generalize hz : zTi = z0 at *
  have ZH : Hid ((hc z0.hash).size = 32) := by show _ = _; rw [hc_size, z0.hh]
  go_upto_region 3 with (first | (go_at_call 50; refine (HD.out _ _ _ P0.out.rd).mono ?_; rintro r W1 ⟨v1, n1, e1, rfl, g1, f1, t1⟩; have P1 := hide (P0.out.step g1 f1); have T1 := hide t1; clear g1 f1 t1) | ((with_reducible refine at_list ?_); first | refine wpList_loadS APx _ rfl w.heap.size rfl #[.string t, .pointer (some ⟨b, 0, none⟩)] rfl 82 P0.out.px.row (by rfl) ?_ | refine wpList_store_mid rfl 44 _ _ rfl (w.heap.size + 1 + 1) 0 (hc v1.1) rfl rfl (by have := P1.out.there; rw [hc_size, v1.2]; rw [ZH.out] at this; exact this) (by rw [hc_size, v1.2]; kernel_rfl) (hc_one _) ?_))
  have P2 : Hid (Pin w (W1.setCells (w.heap.size + 1 + 1) 0 (cellsL v1.1)) b t n1 e1 ⟨v1.1, z0.idx, z0.key, z0.seq, v1.2⟩) := P1.out.sets ⟨v1.1, z0.idx, z0.key, z0.seq, v1.2⟩ ⟨rfl, rfl, rfl⟩
  rw [show (hc v1.1).toList = cellsL v1.1 by simp [hc]]
  generalize W1.setCells (w.heap.size + 1 + 1) 0 (cellsL v1.1) = W2 at *
  clear P0 P1 hz
  obtain ⟨x2, hx2⟩ : ∃ x : Ti, x = ⟨v1.1, z0.idx, z0.key, z0.seq, v1.2⟩ := ⟨_, rfl⟩
  rw [← hx2] at P2
  go_upto_region 4 with (first | (go_at_call 42; refine (HN.out _ _ _ P2.out.rd).mono ?_; rintro r W3 ⟨v2, n2, e2, rfl, g1, f1, t1⟩; have P3 := hide (P2.out.step g1 f1); have T2 := hide t1; clear g1 f1 t1; obtain ⟨c3, f3⟩ := P3.out.c 32 _ x2.at32) | ((with_reducible refine at_list ?_); refine wpList_loadS APx _ rfl w.heap.size rfl #[.string t, .pointer (some ⟨b, 0, none⟩)] rfl 82 P2.out.px.row (by rfl) ?_))
  have P4 := hide (P3.out.set _ 32 _ (x2.set32 v2))
  generalize W3.setCell ⟨w.heap.size + 1 + 1, 32, none⟩ (.int .u32 (v2.toNat : Int)) = W4 at *
  clear P2 P3 c3 f3
  obtain ⟨x4, hx4⟩ : ∃ x : Ti, x = { x2 with idx := v2 } := ⟨_, rfl⟩
  rw [← hx4] at P4
  go_upto_region 5 with (first | (go_at_call 51; refine (HS.out _ _ _ P4.out.rd).mono ?_; rintro r W5 ⟨v3, n3, e3, rfl, z3, g1, f1, t1⟩; have P5 := hide (P4.out.step g1 f1); have T3 := hide t1; have Z3 := hide z3; clear g1 f1 t1 z3; obtain ⟨c3, f3⟩ := P5.out.c 33 _ x4.at33) | ((with_reducible refine at_list ?_); refine wpList_loadS APx _ rfl w.heap.size rfl #[.string t, .pointer (some ⟨b, 0, none⟩)] rfl 82 P4.out.px.row (by rfl) ?_))
  have P6 := hide (P5.out.set _ 33 _ (x4.set33 v3))
  generalize W5.setCell ⟨w.heap.size + 1 + 1, 33, none⟩ (.string v3) = W6 at *
  clear P4 P5 c3 f3
  obtain ⟨x6, hx6⟩ : ∃ x : Ti, x = { x4 with key := v3 } := ⟨_, rfl⟩
  rw [← hx6] at P6
  go_upto_region 6 with (first | (go_at_call 42; refine (HN.out _ _ _ P6.out.rd).mono ?_; rintro r W7 ⟨v4, n4, e4, rfl, g1, f1, t1⟩; have P7 := hide (P6.out.step g1 f1); have T4 := hide t1; clear g1 f1 t1; obtain ⟨c3, f3⟩ := P7.out.c 34 _ x6.at34) | ((with_reducible refine at_list ?_); refine wpList_loadS APx _ rfl w.heap.size rfl #[.string t, .pointer (some ⟨b, 0, none⟩)] rfl 82 P6.out.px.row (by rfl) ?_))
  have P8 := hide (P7.out.set _ 34 _ (x6.set34 v4))
  generalize W7.setCell ⟨w.heap.size + 1 + 1, 34, none⟩ (.int .u32 (v4.toNat : Int)) = W8 at *
  clear P6 P7 c3 f3
  obtain ⟨x8, hx8⟩ : ∃ x : Ti, x = { x6 with seq := v4 } := ⟨_, rfl⟩
  rw [← hx8] at P8
  have hx : x8 = ⟨v1.1, v2, v3, v4, v1.2⟩ := by subst hx8 hx6 hx4 hx2; rfl
  clear hx8 hx6 hx4 hx2
  go_wp2_with ((with_reducible refine at_list ?_); first | (refine wpList_loadA AI rfl _ rfl (w.heap.size + 1 + 1) rfl x8.cells.toArray x8.size 48 P8.out.r2 ?_) | (refine wpList_storeA AI rfl _ _ rfl (w.heap.size + 1) x8.cells.toArray x8.size x8.all rfl rfl zTi.cells.toArray zTi.size 48 P8.out.r1 ?_))
  have hlt := P8.out.px.lt
  refine bodyPost_ret (v := .agg x8.cells.toArray) (resA AI Try.results44 _ _ (w.heap.size + 1) 48 _ x8.size rfl (setRow_heap _ _ _ _ _ _ P8.out.r1)) rfl ⟨x8, n4, e4, rfl, by rw [hx]; exact Z3.out, ⟨P8.out.rd.le, P8.out.rd.lt, P8.out.rd.st.setRow _ (by omega) _⟩, P8.out.px.fr.setRow _ (by omega) _, by rw [hx]; exact T1.out.inp T2.out T3.out T4.out⟩
end
end Go.Proofs.Ytkbfcfmjbgnhcaa
