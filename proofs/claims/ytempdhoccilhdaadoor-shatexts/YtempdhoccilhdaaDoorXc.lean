/- The document's Text and Compare; sha's Text, Compare and Zero. -/
import Derived.Test.YtempdhoccilhdaaDoorXb
import Derived.Test.YtempdhoccilhdaaDoorO0
namespace Go.Proofs.YtempdhoccilhdaaDoor
open Go.RowKit
open Go.Deep
theorem own_none (w : World) : Own (w.alloc (.cells #[] 5)) (.slice (some ⟨w.heap.size, 0, none⟩) 0 0) [] :=
  row_own (l := []) (C := 0) (f := fun _ => .int .u8 0) ⟨_, heap_alloc_last _ _, rfl, fun i hi => by omega⟩ (by simp) (by unfold maxLen; omega) (fun i hi => by simp at hi)
theorem hex_next (h : List UInt8) (hl : h.length = 32) (k : Nat) (hk : k < 32) : hexL (h.reverse.take (k + 1)) = hexL (h.reverse.take k) ++ [hexb ((h.getD (31 - k) 0).toNat / 16), hexb ((h.getD (31 - k) 0).toNat % 16)] := by
  rw [List.take_succ_eq_append_getElem (by rw [List.length_reverse, hl]; exact hk), hexL_app]
  congr 1
  have : h.reverse[k]'(by rw [List.length_reverse, hl]; exact hk) = h.getD (31 - k) 0 := by
    rw [List.getElem_reverse, List.getD_eq_getElem?_getD, List.getElem?_eq_getElem (by omega), Option.getD_some]
    congr 1
    omega
  rw [this]
  rfl
section
set_option maxRecDepth 10000
set_option maxHeartbeats 400000
theorem rtext_any (h : List UInt8) (hl : h.length = 32) (w : World) : Calls Tryd.prog 27 #[.agg (hc h)] w fun e w' => e = .returned (.string ⟨(hexL h.reverse).toArray⟩) ∧ Below w.heap.size w w' := by
  go_enter Tryd.func27, Tryd.ntmps27
  go_wp2_with (refine wpList_boxA rfl _ rfl (hc h) rfl ?_)
  have R0 := hide (row_of_hc hl (heap_alloc2_old w (.cells (hc h) 24) (.cells #[] 5)))
  have O0 : Hid (Own ((w.alloc (.cells (hc h) 24)).alloc (.cells #[] 5)) (.slice (some ⟨w.heap.size + 1, 0, none⟩) 0 0) []) := by
    have := own_none (w.alloc (.cells (hc h) 24))
    rw [show (w.alloc (.cells (hc h) 24)).heap.size = w.heap.size + 1 from by simp] at this
    exact this
  have BB := hide (two_below w (.cells (hc h) 24) (.cells #[] 5))
  go_loopw [3, 4] (fun v c wr => ∃ k : Nat, k ≤ 32 ∧ c = .int .i64 (31 - (k : Int)) ∧ Hid (Own wr v (hexL (h.reverse.take k))) ∧ Hid (wr.rowIs w.heap.size 24 32 (fun j => .int .u8 (hb h j))) ∧ Hid (Below w.heap.size w wr) ∧ Hid (∀ g, v.ownBlock = some g → w.heap.size + 1 ≤ g)) (fun _ c _ => (1 + intOf c).toNat)
  case atStart => exact ⟨0, by omega, rfl, O0, R0, BB, fun g hg => by cases hg; exact Nat.le_refl _⟩
  case round =>
    clear O0 R0 BB
    obtain ⟨k, hk, rfl, ho, r0, bb, far⟩ := hrel
    by_cases hlt : k < 32
    · have c0 := r0.out.cell (show 31 - k < 32 by omega)
      have HN := hide (hex_next h hl k hlt)
      have hbe : hb h (31 - k) = ((h.getD (31 - k) 0).toNat : Int) := rfl
      rw [hbe] at c0
      generalize h.getD (31 - k) 0 = b at *
      have hx := b.toNat_lt
      have hlen : (hexL (h.reverse.take k)).length ≤ 64 := by rw [hexL_len, List.length_take]; omega
      have hi1 : 0 ≤ (b.toNat : Int) / 16 ∧ (b.toNat : Int) / 16 < 16 := by omega
      have hi2 : 0 ≤ (b.toNat : Int) % 16 ∧ (b.toNat : Int) % 16 < 16 := by omega
      have hq : IntKind.u8.wrap ((b.toNat : Int) / 16) = (b.toNat : Int) / 16 := wrap8 _ (by omega) (by omega)
      have hr : IntKind.u8.wrap ((b.toNat : Int) % 16) = (b.toNat : Int) % 16 := wrap8 _ (by omega) (by omega)
      have htm : (b.toNat : Int).tmod 16 = (b.toNat : Int) % 16 := Int.tmod_eq_emod_of_nonneg (by omega)
      have k0 : (0 : Int) ≤ 31 - k := by omega
      have k1 : (31 : Int) - k < 32 := by omega
      have kt : ((31 : Int) - k).toNat = 31 - k := by omega
      go_wp2
      go_region_law ((refine step_app (by rfl) _ _ (by rfl) _ _ (by rfl) (ho.out.alloc _) ⟨_, 0, none⟩ 2 2 [hexb (b.toNat / 16), hexb (b.toNat % 16)] (by rfl) rfl (two_new _ _ _ _ _ (dig_at _ (by omega) _ (by omega) _) (dig_at _ (by omega) _ (by omega) _)) (by simp; omega) ?_; intro v' w3 hown' hon3))
      all_goals go_wp2
      all_goals
        have hon : Onto wr w3 u3 v' := (((Onto.refl _ _).alloc _).drew).trans hon3
        have hlw : w.heap.size < wr.heap.size := World.rowIs.lt r0.out
        have hbl := hon.below (B := w.heap.size + 1) hlw far.out
        exact ⟨⟨k + 1, by omega, by go_num, hide (by rw [HN.out]; exact hown'), hide (r0.out.of_block (hbl.block _ (by omega))), hide (bb.out.trans (hbl.mono (by omega))), hide (hon.far hlw far.out)⟩, by simp [intOf]; omega⟩
    · have hke : k = 32 := by omega
      subst hke
      have ht : h.reverse.take 32 = h.reverse := List.take_of_length_le (by rw [List.length_reverse, hl]; exact Nat.le_refl _)
      rw [ht] at ho
      have hcv := conv_own ho.out
      rw [show (31 : Int) - ((32 : Nat) : Int) = -1 from rfl]
      go_wp2
      go_ret
      exact ⟨rfl, bb.out⟩
theorem rcompare_any (h g : List UInt8) (hl : h.length = 32) (gl : g.length = 32) (w : World) : Calls Tryd.prog 29 #[.agg (hc h), .agg (hc g)] w fun e w' => e = .returned (.int .i64 (cmpK (hb h) (hb g) 32)) ∧ Below w.heap.size w w' := by
  go_enter Tryd.func29, Tryd.ntmps29
  go_wp2_with (first | refine wpList_boxA rfl _ rfl (hc h) rfl ?_ | refine wpList_boxA rfl _ rfl (hc g) rfl ?_)
  have R0 := hide (row_of_hc hl (heap_alloc2_old w (.cells (hc h) 24) (.cells (hc g) 24)))
  have R1 := hide (row_of_hc gl (heap_alloc2_new w (.cells (hc h) 24) (.cells (hc g) 24)))
  have BB := hide (two_below w (.cells (hc h) 24) (.cells (hc g) 24))
  go_loopw [5] (fun c wr => ∃ k : Nat, k ≤ 32 ∧ c = .int .i64 ((k : Int) - 1) ∧ Hid (cmpK (hb h) (hb g) k = cmpK (hb h) (hb g) 32) ∧ Hid (wr.rowIs w.heap.size 24 32 (fun j => .int .u8 (hb h j))) ∧ Hid (wr.rowIs (w.heap.size + 1) 24 32 (fun j => .int .u8 (hb g j))) ∧ Hid (Below w.heap.size w wr)) (fun c _ => (1 + intOf c).toNat)
  case atStart => exact ⟨32, by omega, rfl, rfl, R0, R1, BB⟩
  case round =>
    clear R0 R1 BB
    obtain ⟨k, hk, rfl, hcm, r0, r1, bb⟩ := hrel
    cases k with
    | zero =>
      go_wp2
      go_ret
      exact ⟨by rw [← hcm.out]; rfl, bb.out⟩
    | succ k =>
      have hw : ((k + 1 : Nat) : Int) - 1 = k := by omega
      rw [hw]
      have c0 := r0.out.cell (show k < 32 by omega)
      have c1 := r1.out.cell (show k < 32 by omega)
      have k0 : (0 : Int) ≤ k := by omega
      have k1 : (k : Int) < 32 := by omega
      by_cases h1 : hb h k < hb g k
      · have HE := hide (cmpK_lt hcm.out h1)
        generalize hb h k = x at *
        generalize hb g k = y at *
        go_wp2
        go_quiet (fail)
        go_wp2
        go_ret
        exact ⟨by rw [HE.out]; rfl, below_drewN bb.out _⟩
      · by_cases h2 : hb g k < hb h k
        · have HE := hide (cmpK_gt hcm.out h1 h2)
          generalize hb h k = x at *
          generalize hb g k = y at *
          go_wp2
          go_quiet (fail)
          go_wp2
          go_quiet (fail)
          go_wp2
          go_ret
          exact ⟨by rw [HE.out]; rfl, below_drewN (below_drewN bb.out _) _⟩
        · have HE := hide (cmpK_eq hcm.out h1 h2)
          generalize hb h k = x at *
          generalize hb g k = y at *
          go_wp2
          go_quiet (fail)
          go_wp2
          go_quiet (fail)
          go_wp2
          exact ⟨⟨k, by omega, by go_num, HE, r0, r1, hide (below_drewN bb.out _)⟩, by simp [intOf]; omega⟩
theorem stext_any (h : List UInt8) (hl : h.length = 32) (w : World) : Calls Tryd.prog 26 #[.agg (hc h)] w fun e w' => e = .returned (.string ⟨(hexL h.reverse).toArray⟩) ∧ Below w.heap.size w w' := by
  have HT := hide fun W => text_any h hl W
  have B1 := hide ((Below.refl w.heap.size w).alloc (Nat.le_refl _) (.cells (hc h) 25))
  go_enter Tryd.func26, Tryd.ntmps26
  go_wp2_with (first | refine wpList_boxA rfl _ rfl (hc h) rfl ?_ | refine wpList_loadA A25 rfl _ rfl _ rfl (hc h) (by rw [hc_size, hl]) 25 (heap_alloc_last w _) ?_ | (go_at_call 42; refine (HT.out _).mono ?_; rintro e w1 ⟨rfl, hb1⟩; have B2 := hide (below_next B1.out hb1)))
  go_ret
  exact ⟨rfl, B2.out⟩
theorem scompare_any (h g : List UInt8) (hl : h.length = 32) (gl : g.length = 32) (w : World) : Calls Tryd.prog 28 #[.agg (hc h), .agg (hc g)] w fun e w' => e = .returned (.int .i64 (cmpK (hb h) (hb g) 32)) ∧ Below w.heap.size w w' := by
  have HT := hide fun W => compare_any h g hl gl W
  have B1 := hide (two_below w (.cells (hc h) 25) (.cells (hc g) 25))
  go_enter Tryd.func28, Tryd.ntmps28
  go_wp2_with (first | refine wpList_boxA rfl _ rfl (hc h) rfl ?_ | refine wpList_boxA rfl _ rfl (hc g) rfl ?_ | refine wpList_loadA A25 rfl _ rfl _ rfl (hc h) (by rw [hc_size, hl]) 25 (heap_alloc2_old w _ _) ?_ | refine wpList_loadA A25 rfl _ rfl _ rfl (hc g) (by rw [hc_size, gl]) 25 (heap_alloc2_new w _ _) ?_ | (go_at_call 43; refine (HT.out _).mono ?_; rintro e w1 ⟨rfl, hb1⟩; have B2 := hide (below_next B1.out hb1)))
  go_ret
  exact ⟨rfl, B2.out⟩
end
end Go.Proofs.YtempdhoccilhdaaDoor
