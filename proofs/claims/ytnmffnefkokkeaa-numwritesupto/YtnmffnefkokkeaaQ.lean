/- What is known around the law's one: its boxes, the reader, the end. -/
import Derived.Test.YtnmffnefkokkeaaP
namespace Go.Proofs.Ytnmffnefkokkeaa
open Go.RowKit
theorem three_below (w : World) (A B C : Obj) : Below w.heap.size w (((w.alloc A).alloc B).alloc C) := (two_below w A B).alloc (two_below w A B).size C
theorem three_new (w : World) (A B C : Obj) : (((w.alloc A).alloc B).alloc C).heap[w.heap.size]? = some A ∧ (((w.alloc A).alloc B).alloc C).heap[w.heap.size + 1]? = some B ∧ (((w.alloc A).alloc B).alloc C).heap[w.heap.size + 2]? = some C := by
  have hz : ((w.alloc A).alloc B).heap.size = w.heap.size + 2 := by simp
  refine ⟨(Below.heap_alloc _ C _ (by omega)).trans (heap_alloc2_old w A B), (Below.heap_alloc _ C _ (by omega)).trans (heap_alloc2_new w A B), ?_⟩
  rw [← hz]
  exact heap_alloc_new _ C
theorem Rfr.three {b : Nat} {w w1 : World} {A B C : Obj} (hlt : b < w.heap.size) (h : Rfr b (((w.alloc A).alloc B).alloc C) w1) : w1.heap[w.heap.size]? = some A ∧ w1.heap[w.heap.size + 1]? = some B ∧ w1.heap[w.heap.size + 2]? = some C ∧ Rfr b w w1 := by
  have hz : (((w.alloc A).alloc B).alloc C).heap.size = w.heap.size + 3 := by simp
  obtain ⟨h1, h2, h3⟩ := three_new w A B C
  exact ⟨(h.block _ (by omega) (by omega)).trans h1, (h.block _ (by omega) (by omega)).trans h2, (h.block _ (by omega) (by omega)).trans h3, (Rfr.below (three_below w A B C)).trans h⟩
theorem kept_below {w1 w2 : World} {g : Nat} {A : Obj} (hA : w1.heap[g]? = some A) (hb : Below w1.heap.size w1 w2) : w2.heap[g]? = some A := (hb.block g (lt_of_heap hA)).trans hA
theorem cells4 {w1 : World} {g : Nat} {a b c d : Value} {t : TypeId} (h : w1.heap[g]? = some (.cells #[a, b, c, d] t (0, 0))) : w1.cell? ⟨g, 1, none⟩ = some b ∧ w1.cell? ⟨g, 2, none⟩ = some c :=
  ⟨by rw [cell_of_row w1 g 1 _ _ _ h]; rfl, by rw [cell_of_row w1 g 2 _ _ _ h]; rfl⟩
theorem Rfr.set3 {b : Nat} {w w2 : World} (h : Rfr b w w2) {g : Nat} (hg : w.heap.size ≤ g) (a c d : Value) : Rfr b w (((w2.setCell ⟨g, 0, none⟩ a).setCell ⟨g, 1, none⟩ c).setCell ⟨g, 2, none⟩ d) :=
  ⟨h.os, h.tape, h.output, by have := h.size; simpa [World.setCell] using this, fun k hk hb => by
    rw [Below.heap_setCell _ _ _ _ (show k ≠ g by omega), Below.heap_setCell _ _ _ _ (show k ≠ g by omega), Below.heap_setCell _ _ _ _ (show k ≠ g by omega)]
    exact h.block k hk hb⟩
theorem Rfr.alloc {b : Nat} {w w2 : World} (h : Rfr b w w2) (o : Obj) : Rfr b w (w2.alloc o) :=
  ⟨h.os, h.tape, h.output, by have := h.size; simp; omega, fun k hk hb => (Below.heap_alloc _ _ _ (Nat.lt_of_lt_of_le hk h.size)).trans (h.block k hk hb)⟩
theorem Rst.set3 {w : World} {b : Nat} {s : ByteArray} {p e : Int} (h : Rst w b s p e) {g : Nat} (hg : b ≠ g) (a c d : Value) : Rst (((w.setCell ⟨g, 0, none⟩ a).setCell ⟨g, 1, none⟩ c).setCell ⟨g, 2, none⟩ d) b s p e := by
  unfold Rst
  rw [Below.heap_setCell _ _ _ _ hg, Below.heap_setCell _ _ _ _ hg, Below.heap_setCell _ _ _ _ hg]
  exact h
theorem Rst.alloc {w : World} {b : Nat} {s : ByteArray} {p e : Int} (h : Rst w b s p e) (o : Obj) : Rst (w.alloc o) b s p e := (Below.heap_alloc _ _ _ h.lt).trans h
/-- The world at one's end. -/
theorem one_end {b : Nat} {w w2 : World} {s : ByteArray} {p e : Int} (hR : Rst w2 b s p e) (hF : Rfr b w w2) (hlt : b < w.heap.size) (a c d : Value) (C : Obj) :
    Rst ((((w2.setCell ⟨w.heap.size + 1 + 1, 0, none⟩ a).setCell ⟨w.heap.size + 1 + 1, 1, none⟩ c).setCell ⟨w.heap.size + 1 + 1, 2, none⟩ d).alloc C) b s p e ∧ Rfr b w ((((w2.setCell ⟨w.heap.size + 1 + 1, 0, none⟩ a).setCell ⟨w.heap.size + 1 + 1, 1, none⟩ c).setCell ⟨w.heap.size + 1 + 1, 2, none⟩ d).alloc C) :=
  ⟨(hR.set3 (by omega) a c d).alloc C, (hF.set3 (by omega) a c d).alloc C⟩
theorem one_endD {b : Nat} {w w2 : World} {s : ByteArray} {p e : Int} (hR : Rst w2 b s p e) (hF : Rfr b w w2) (hlt : b < w.heap.size) (a c d : Value) (C : Obj) :
    Rst ((((w2.setCell ⟨w.heap.size + 1 + 1, 0, none⟩ a).setCell ⟨w.heap.size + 1 + 1, 1, none⟩ c).setCell ⟨w.heap.size + 1 + 1, 2, none⟩ d).alloc C).drew b s p e ∧ Rfr b w ((((w2.setCell ⟨w.heap.size + 1 + 1, 0, none⟩ a).setCell ⟨w.heap.size + 1 + 1, 1, none⟩ c).setCell ⟨w.heap.size + 1 + 1, 2, none⟩ d).alloc C).drew := by
  obtain ⟨h1, h2⟩ := one_end hR hF hlt a c d C
  exact ⟨h1, h2.os, h2.tape, h2.output, h2.size, h2.block⟩
section
variable (b : Nat) (s : ByteArray) (w : World)
set_option maxRecDepth 10000
set_option maxHeartbeats 600000
theorem one_0 (p err n : Int) (x : Nat) (t : ByteArray) (h : Rst w b s p err) (hs : s.size ≤ maxLen) (h0 : 0 ≤ p) (h1 : p ≤ s.size) :
    Calls Try.prog 25 #[.pointer (some ⟨b, 0, none⟩), .agg #[.string s, .int .i64 p, .int .i64 err], .agg #[.int .i64 0, .int .i64 n, .int .u64 x, .string t]] w fun e w' =>
      e = .returned (.tuple #[.agg #[.string s, .int .i64 (rtake s p err 1).1, .int .i64 (rtake s p err 1).2.1], .bool true]) ∧ Rst w' b s (rtake s p err 1).1 (rtake s p err 1).2.1 ∧ Rfr b w w' := by
  have hlt := h.lt
  have hz := rtake_size s p err 1 1 rfl h0
  have HR := hide fun w h => rByte b s w p err h hs h0 h1
  have HM := hide fun w => mTake s w p err 1 hs h0 h1 (by decide)
  generalize rtake s p err 1 = R at *
  obtain ⟨r1, r2, rb⟩ := R
  dsimp only at *
  have HG := hide fun w => get_any rb w (by omega)
  have hwr : IntKind.u64.wrap (getL rb.data.toList : Int) = (getL rb.data.toList : Int) := by
    have := getL_lt' rb.data.toList 8 18446744073709551616 (by simp; omega) (by decide)
    exact wrapu _ (by omega) (by omega)
  generalize getL rb.data.toList = m at *
  go_enter Try.func25, Try.ntmps25
  go_wp2_with fail
  refine (HR.out _ (h.below (three_below _ _ _ _))).mono ?_
  rintro e w1 ⟨rfl, g1, q1⟩
  obtain ⟨hA, hB, hC, hF⟩ := q1.three hlt
  obtain ⟨a0, a1, a2, -, -, -⟩ := cells3 hA
  have HA := hide hA
  have HC := hide hC
  have HF := hide hF
  clear hA hB hC hF q1
  go_wp2_with fail
  clear a0 a1 a2
  refine (HM.out _).mono ?_
  rintro e w2 ⟨rfl, hb⟩
  obtain ⟨c0, c1, c2, fc0, fc1, fc2⟩ := cells3 (kept_below HC.out hb)
  have hl2 := lt_of_heap (kept_below HC.out hb)
  have G2 := hide (g1.below hb)
  have F2 := hide (HF.out.trans (Rfr.below hb))
  clear hb g1 HF HC HA
  go_wp2
  go_region_with (go_at_call 47; refine (HG.out _).mono ?_; rintro e w3 ⟨rfl, rfl⟩)
  all_goals go_wp2
  all_goals
    refine bodyPost_ret (v := .tuple #[.agg #[.string s, .int .i64 r1, .int .i64 r2], .bool true]) ?_ rfl ⟨rfl, one_endD G2.out F2.out hlt _ _ _ _⟩
    simp [results, Try.results25, go_sem, *]
end
end Go.Proofs.Ytnmffnefkokkeaa
