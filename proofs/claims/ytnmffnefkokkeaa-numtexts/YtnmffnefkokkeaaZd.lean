/- Hashes as texts: the contracts of num's turn and Text. -/
import Derived.Test.YtnmffnefkokkeaaZc
namespace Go.Proofs.Ytnmffnefkokkeaa
open Go.RowKit
open Go.Deep
/-- The byte k of a hash. -/
def hb (h : List UInt8) (k : Nat) : Int := (h.getD k 0).toNat
theorem hc_at (h : List UInt8) (k : Nat) (hk : k < h.length) : (hc h)[k]? = some (.int .u8 (hb h k)) := by
  simp [hc, cellsL, hb, hk]
theorem row_of_hc {wr : World} {g : Nat} {h : List UInt8} (hl : h.length = 32) {t : TypeId} (hg : wr.heap[g]? = some (.cells (hc h) t (0, 0))) : wr.rowIs g t 32 (fun j => .int .u8 (hb h j)) :=
  ⟨hc h, hg, by rw [hc_size, hl], fun i hi => hc_at h i (by omega)⟩
theorem hc_of_row {wr : World} {g : Nat} {h : List UInt8} (hl : h.length = 32) {t : TypeId} {f : Nat → Value} (hr : wr.rowIs g t 32 f) (hf : ∀ i, i < 32 → f i = .int .u8 (hb h i)) : wr.heap[g]? = some (.cells (hc h) t (0, 0)) := by
  obtain ⟨c, hg, hn, hcs⟩ := hr
  rw [hg]
  have : c = hc h := by
    apply Array.ext
    · rw [hc_size, hl, hn]
    · intro i h1 h2
      have e := hcs i (by omega)
      rw [hf i (by omega), ← hc_at h i (by omega), Array.getElem?_eq_getElem h1, Array.getElem?_eq_getElem h2] at e
      exact Option.some.inj e
  rw [this]
/-- What is turned behind k rounds. -/
def turnF (h : List UInt8) (k j : Nat) : Value := if 31 - j < k then .int .u8 (hb h (31 - j)) else .int .u8 0
theorem turnF_step (h : List UInt8) (k j : Nat) (hk : k < 32) (hj : j < 32) : (if j = 31 - k then Value.int .u8 (hb h k) else turnF h k j) = turnF h (k + 1) j := by
  unfold turnF
  by_cases e : j = 31 - k
  · rw [if_pos e, if_pos (by omega), show 31 - j = k by omega]
  · rw [if_neg e]
    by_cases e2 : 31 - j < k
    · rw [if_pos e2, if_pos (by omega)]
    · rw [if_neg e2, if_neg (by omega)]
theorem turnF_end (h : List UInt8) (hl : h.length = 32) (j : Nat) (hj : j < 32) : turnF h 32 j = .int .u8 (hb h.reverse j) := by
  unfold turnF hb
  rw [if_pos (by omega), List.getD_eq_getElem?_getD, List.getD_eq_getElem?_getD, List.getElem?_reverse (by omega), hl]
theorem turnF_zero (h : List UInt8) (j : Nat) (hj : j < 32) : turnF h 0 j = .int .u8 (hb zeros j) := by
  unfold turnF hb zeros
  rw [if_neg (by omega), List.getD_eq_getElem?_getD, List.getElem?_replicate, if_pos hj]
  rfl
theorem blk3 (w : World) (A B C : Obj) : (((w.alloc A).alloc B).alloc C).heap[w.heap.size]? = some A ∧ (((w.alloc A).alloc B).alloc C).heap[w.heap.size + 1]? = some B ∧ (((w.alloc A).alloc B).alloc C).heap[w.heap.size + 1 + 1]? = some C := by
  refine ⟨(Below.heap_alloc _ C _ (by simp; omega)).trans (heap_alloc2_old w A B), (Below.heap_alloc _ C _ (by simp)).trans (heap_alloc2_new w A B), ?_⟩
  have := heap_alloc_new ((w.alloc A).alloc B) C
  simpa using this
section
set_option maxRecDepth 10000
set_option maxHeartbeats 400000
theorem turn_any (h : List UInt8) (hl : h.length = 32) (w : World) : Calls Try.prog 53 #[.agg (hc h)] w fun e w' => e = .returned (.agg (hc h.reverse)) ∧ Below w.heap.size w w' := by
  go_enter Try.func53, Try.ntmps53
  go_wp2_with (first | refine wpList_box33 rfl _ rfl h rfl ?_ | refine wpList_alloc33 rfl rfl ?_)
  obtain ⟨b0, b1, b2⟩ := blk3 w (.cells (hc h) 33) (.cells (hc zeros) 33) (.cells (hc zeros) 33)
  have R0 := hide (row_of_hc hl b0)
  have R1 := hide b1
  have R2 := hide ((row_of_hc zeros_len b2).congr (fun i hi => (turnF_zero h i hi).symm))
  have BB : Hid (Below w.heap.size w (((w.alloc (.cells (hc h) 33)).alloc (.cells (hc zeros) 33)).alloc (.cells (hc zeros) 33))) := (((Below.refl _ _).alloc (Nat.le_refl _) _).alloc (by simp) _).alloc (by simp; omega) _
  clear b0 b1 b2
  go_loopw [4, 5] (fun _ c wr => ∃ k : Nat, k ≤ 32 ∧ c = .int .i64 k ∧ Hid (wr.rowIs w.heap.size 33 32 (fun j => .int .u8 (hb h j))) ∧ Hid (wr.heap[w.heap.size + 1]? = some (.cells (hc zeros) 33 (0, 0))) ∧ Hid (wr.rowIs (w.heap.size + 1 + 1) 33 32 (turnF h k)) ∧ Hid (Below w.heap.size w wr)) (fun _ c _ => (32 - intOf c).toNat)
  case atStart => exact ⟨0, by omega, rfl, R0, R1, R2, BB⟩
  case round =>
    clear R0 R1 R2 BB
    obtain ⟨k, hk, rfl, r0, r1, r2, bb⟩ := hrel
    by_cases hlt : k < 32
    · have c0 := r0.out.cell hlt
      have f2 := r2.out.frozen (31 - k)
      have c2 := r2.out.cell (show 31 - k < 32 by omega)
      have ht : ((31 : Int) - k).toNat = 31 - k := by omega
      have hk' : (k : Int) < 32 := by omega
      have hw : IntKind.i64.wrap (31 - (k : Int)) = 31 - k := by simp only [IntKind.wrap, IntKind.signed, IntKind.bits]; simp; omega
      go_wp2
      exact ⟨⟨k + 1, by omega, by go_num, hide (r0.out.setOther (by simp; omega) _), hide ((blk_setCell_other _ _ _ _ (by simp)).trans r1.out), hide ((r2.out.set _ _).congr (fun i hi => turnF_step h k i hlt hi)), hide (bb.out.setCell (by simp; omega) _)⟩, by simp [intOf]; omega⟩
    · have hke : k = 32 := by omega
      subst hke
      have hl' : h.reverse.length = 32 := by rw [List.length_reverse, hl]
      have H2 := hc_of_row hl' r2.out (turnF_end h hl)
      go_wp2_with (first | refine wpList_load33 rfl _ rfl _ rfl h.reverse hl' 33 H2 ?_ | refine wpList_store33 rfl _ _ rfl _ h.reverse hl' rfl rfl zeros zeros_len 33 r1.out ?_)
      exact bodyPost_ret (v := .agg (hc h.reverse)) (res33 Try.results53 _ _ (w.heap.size + 1) 33 h.reverse hl' rfl (setRow_heap _ _ _ _ _ _ r1.out)) rfl ⟨rfl, below_setRow bb.out (by omega) _⟩
theorem text_any (h : List UInt8) (hl : h.length = 32) (w : World) : Calls Try.prog 18 #[.agg (hc h)] w fun e w' => e = .returned (.string ⟨(hexL h.reverse).toArray⟩) ∧ Below w.heap.size w w' := by
  have hl' : h.reverse.length = 32 := by rw [List.length_reverse, hl]
  have hz : (⟨h.reverse.toArray⟩ : ByteArray).size ≤ 35184372088832 := by
    show h.reverse.toArray.size ≤ _
    rw [List.size_toArray, hl']
    decide
  have HT := hide fun W => turn_any h hl W
  have HH := hide fun W => hex_any ⟨h.reverse.toArray⟩ W hz
  have B1 := hide ((Below.refl w.heap.size w).alloc (Nat.le_refl _) (.cells (hc h) 33))
  go_enter Try.func18, Try.ntmps18
  go_wp2_with (first | refine wpList_box33 rfl _ rfl h rfl ?_ | refine wpList_load33 rfl _ rfl _ rfl h hl 33 (heap_alloc_new w _) ?_ | (go_at_call 53; refine (HT.out _).mono ?_; rintro e w1 ⟨rfl, hb1⟩; have B2 := hide (B1.out.trans (hb1.mono (by simp))); have hcv := conv33 (w1.alloc (.cells (hc h.reverse) 33)) w1.heap.size h.reverse hl' 33 (heap_alloc_new w1 _)) | refine wpList_alloc33 rfl rfl ?_ | refine wpList_store33_new rfl _ _ rfl _ rfl _ hl' rfl rfl zeros_len ?_ | (go_at_call 19; refine (HH.out _).mono ?_; rintro e w2 ⟨rfl, hb2⟩))
  go_ret
  exact ⟨rfl, (B2.out.alloc B2.out.size _).trans (hb2.mono (by have := B2.out.size; simp; omega))⟩
end
end Go.Proofs.Ytnmffnefkokkeaa
