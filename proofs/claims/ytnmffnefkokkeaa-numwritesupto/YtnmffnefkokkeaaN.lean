/- The contract of num.Reader's Hash. -/
import Derived.Test.YtnmffnefkokkeaaM
namespace Go.Proofs.Ytnmffnefkokkeaa
open Go.RowKit
theorem Rfr.new {b : Nat} {w w1 : World} {A B : Obj} (hlt : b < w.heap.size) (h : Rfr b ((w.alloc A).alloc B).drew w1) : w1.heap[w.heap.size]? = some A ∧ w1.heap[w.heap.size + 1]? = some B := by
  have hz : ((w.alloc A).alloc B).drew.heap.size = w.heap.size + 2 := by simp
  exact ⟨(h.block _ (by omega) (by omega)).trans (heap_alloc2_old w A B), (h.block _ (by omega) (by omega)).trans (heap_alloc2_new w A B)⟩
theorem Rfr.setRow {b : Nat} {w w1 : World} (h : Rfr b w w1) (g : Nat) (hg : w.heap.size ≤ g) (cs : Array Value) : Rfr b w (w1.setRow g cs) :=
  ⟨h.os, h.tape, h.output, by have := h.size; simpa using this, fun k hk hb => (setRow_other w1 g k _ (by omega)).trans (h.block k hk hb)⟩
theorem Rst.setRow {w : World} {b : Nat} {s : ByteArray} {p err : Int} (h : Rst w b s p err) (g : Nat) (hg : b ≠ g) (cs : Array Value) : Rst (w.setRow g cs) b s p err := (setRow_other w g b _ hg).trans h
theorem two_drew {b : Nat} (w : World) (A B : Obj) : Rfr b w ((w.alloc A).alloc B).drew := Rfr.below ((two_below w A B).drew)
section
variable (b : Nat) (s : ByteArray) (w : World)
set_option maxRecDepth 10000
/-- The bytes of a hash that was taken. -/
def hashOf (R : Int × Int × ByteArray) : List UInt8 := if R.2.1 ≠ 0 then zeros else R.2.2.data.toList
set_option maxHeartbeats 800000 in
theorem rHash (p err : Int) (h : Rst w b s p err) (hs : s.size ≤ maxLen) (h0 : 0 ≤ p) (h1 : p ≤ s.size) : Calls Try.prog 43 #[.pointer (some ⟨b, 0, none⟩)] w fun e w' => e = .returned (.agg (hc (hashOf (rtake s p err 32)))) ∧ Rst w' b s (rtake s p err 32).1 (rtake s p err 32).2.1 ∧ Rfr b w w' := by
  have hlt := h.lt
  have HT := hide fun w h => rTake b s w p err 32 h hs h0 h1 (by decide) (by decide)
  have he := rtake_err s p err 32
  have ho := rtake_ok s p err 32
  unfold hashOf
  generalize rtake s p err 32 = R at *
  obtain ⟨r1, r2, rb⟩ := R
  dsimp only at *
  have hW : Rst ((w.alloc (.cells (hc zeros) 33)).alloc (.cells (hc zeros) 33)).drew b s p err := h.below ((two_below w _ _).drew)
  by_cases h2 : r2 = 0
  · subst h2
    rw [if_neg (by simp)]
    obtain ⟨rfl, -, -, h5, h6⟩ := ho rfl
    have hz : rb.size = 32 := by rw [h6]; simp; omega
    have hzl : rb.data.toList.length = 32 := by simpa using hz
    clear he ho h5 h6
    go_enter Try.func43, Try.ntmps43
    go_wp2_with (first | refine wpList_alloc33 rfl rfl ?_)
    go_region_with (go_at_call 70; refine (HT.out _ hW).mono ?_; rintro e w1 ⟨rfl, g, q⟩; have hA := (Rfr.new hlt q).1; have hB := (Rfr.new hlt q).2; have hcp := copy33 w1 (w.heap.size + 1) rb hz zeros zeros_len 33 hB)
    all_goals
      have hB2 := setRow_heap w1 (w.heap.size + 1) _ (hc rb.data.toList) _ _ hB
      have hA2 := (setRow_other w1 (w.heap.size + 1) w.heap.size (hc rb.data.toList) (by omega)).trans hA
      go_wp2_with (first | (refine wpList_load33 rfl _ rfl (w.heap.size + 1) rfl rb.data.toList hzl 33 hB2 ?_) | (refine wpList_store33 rfl _ _ rfl w.heap.size rb.data.toList hzl rfl rfl zeros zeros_len 33 hA2 ?_))
      refine bodyPost_ret (v := .agg (hc rb.data.toList)) (res33 Try.results43 _ _ w.heap.size 33 _ hzl rfl (setRow_heap _ _ _ _ _ _ hA2)) rfl ⟨rfl, (g.setRow _ (by omega) _).setRow _ (by omega) _, ?_⟩
      exact ((((two_drew w _ _).trans q).setRow _ (by omega) _).setRow _ (by omega) _)
  · rw [if_pos h2]
    obtain ⟨rfl, rfl⟩ := he h2
    have hcp := fun W d a b => copy_none W d a b
    clear he ho h2
    go_enter Try.func43, Try.ntmps43
    go_wp2_with (first | refine wpList_alloc33 rfl rfl ?_)
    go_region_with (go_at_call 70; refine (HT.out _ hW).mono ?_; rintro e w1 ⟨rfl, g, q⟩; have hA := (Rfr.new hlt q).1; have hB := (Rfr.new hlt q).2)
    all_goals
      go_wp2_with (first | (refine wpList_load33 rfl _ rfl (w.heap.size + 1) rfl zeros zeros_len 33 hB ?_) | (refine wpList_store33 rfl _ _ rfl w.heap.size zeros zeros_len rfl rfl zeros zeros_len 33 hA ?_))
      refine bodyPost_ret (v := .agg (hc zeros)) (res33 Try.results43 _ _ w.heap.size 33 _ zeros_len rfl (setRow_heap _ _ _ _ _ _ hA)) rfl ⟨rfl, g.setRow _ (by omega) _, ?_⟩
      exact (((two_drew w _ _).trans q).setRow _ (by omega) _)
end
end Go.Proofs.Ytnmffnefkokkeaa
