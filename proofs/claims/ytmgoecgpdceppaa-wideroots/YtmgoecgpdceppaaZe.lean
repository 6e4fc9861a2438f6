/- The contract of wide.Root. -/
import Derived.Test.YtmgoecgpdceppaaZd
import Derived.Test.YtmgoecgpdceppaaWp
import Derived.Test.YtmgoecgpdceppaaWl
namespace Go.Proofs.Ytmgoecgpdceppaa
open Go.RowKit
open Go.Deep
theorem cmp_le (a b : Nat) : cmpZ a b ≤ 0 ↔ a ≤ b := by
  unfold cmpZ
  split
  · simp; omega
  · split
    · simp; omega
    · simp; omega
theorem Tri.alloc {w W : World} {t : TypeId} {m r : Nat} (j : Tri w W t m r) (o : Obj) : Tri w (W.alloc o) t m r := j.next ((Below.refl _ _).alloc (Nat.le_refl _) _)
section
set_option maxRecDepth 10000
set_option maxHeartbeats 2000000
theorem root_any (m : Nat) (hm : m < M) (w : World) : Calls Try.prog 43 #[.agg (wn m)] w fun e w' => e = .returned (.agg (wn (rt m))) ∧ Below w.heap.size w w' := by
  have J0 : Hid (Tri w (((w.alloc (.cells (wn m) 24)).alloc (.cells (wn 0) 24)).alloc (.cells (wn 0) 24)) 24 m (rn m 128)) := by
    unfold Hid
    rw [rn_128 m hm]
    exact Tri.start w 24 m 0
  have HM := hide hm
  clear hm
  go_enter Try.func43, Try.ntmps43
  go_wp2_with (first | refine wpList_boxA rfl _ rfl (wn m) rfl ?_ | refine wpList_allocA AW rfl rfl ?_)
  generalize ((w.alloc (.cells (wn m) 24)).alloc (.cells (wn 0) 24)).alloc (.cells (wn 0) 24) = W0 at *
  go_loopw [4, 5, 6, 7] (fun d _ _ _ wr => ∃ n : Nat, n ≤ 128 ∧ d = .int .i64 ((n : Int) - 1) ∧ Hid (Tri w wr 24 m (rn m n))) (fun d _ _ _ _ => (1 + intOf d).toNat)
  case atStart => exact ⟨128, by omega, rfl, J0⟩
  case round =>
    clear J0
    obtain ⟨n, hn, rfl, J⟩ := hrel
    rcases n with _ | k
    · have h0 : ¬ (0 : Int) ≤ ((0 : Nat) : Int) - 1 := by omega
      rw [rn_zero] at J
      have H2 := hide J.out.c
      go_wp2_with (first | refine wpList_loadA AW rfl _ rfl _ rfl (wn (rt m)) (wn_size _) 24 H2.out ?_ | refine wpList_storeA AW rfl _ _ rfl _ (wn (rt m)) (wn_size _) (wn_one _) rfl rfl (wn 0) (wn_size 0) 24 J.out.b ?_)
      exact bodyPost_ret (v := .agg (wn (rt m))) (resA AW Try.results43 _ _ (w.heap.size + 1) 24 (wn (rt m)) (wn_size _) rfl (setRow_heap _ _ _ _ _ _ J.out.b)) rfl ⟨rfl, below_setRow J.out.bel (by omega) _⟩
    · have e1 : ((k + 1 : Nat) : Int) - 1 = k := by omega
      have k0 : (0 : Int) ≤ k := by omega
      rw [e1]
      have HB := hide fun W => withBit_any (rn m (k + 1)) k (by omega) (rn_bit m k) W
      have hy := rn_try m k HM.out (by omega)
      obtain ⟨y1, y2, y3⟩ := sq_M _ hy
      have HMu := hide fun W => mul_any _ _ y1 y1 W
      have HC := hide fun W => compare_any _ _ y2 HM.out W
      have hkw : IntKind.i64.wrap ((k : Int) - 1) = k - 1 := wrapI _ (by omega) (by omega)
      have hst := rn_step m k
      have KK := hide (show k ≤ 128 by omega)
      have hcl := cmp_le ((rn m (k + 1) + 2 ^ k) * (rn m (k + 1) + 2 ^ k)) m
      generalize hR : rn m (k + 1) = r at *
      obtain ⟨y, hye⟩ : ∃ y, y = r + 2 ^ k := ⟨_, rfl⟩
      rw [← hye] at HB HMu HC hst hcl
      clear hy y1 y2 y3 hR hye hn e1
      have HST := hide hst
      clear hst
      generalize y * y / M = hi at *
      generalize y * y = sq at *
      generalize cmpZ sq m = z at *
      have c0 := hide J.out.c
      go_upto_region 6 with (first | refine wpList_loadA AW rfl _ rfl _ rfl (wn r) (wn_size _) 24 c0.out ?_ | (go_at_call 56; refine (HB.out _).mono ?_; rintro e w1 ⟨rfl, be⟩; have J1 := hide (J.out.next be); clear be) | refine wpList_allocA AW rfl rfl ?_ | refine wpList_store_newA AW rfl _ _ rfl _ rfl (wn y) (wn_size _) (wn_one _) rfl rfl ?_)
      clear J c0 HB
      have G1 := hide (heap_alloc_last w1 (.cells (wn y) 24))
      have J2 := hide (J1.out.alloc (.cells (wn y) 24))
      have LG := hide J1.out.lt
      generalize w1.alloc (.cells (wn y) 24) = W2 at *
      generalize w1.heap.size = g at *
      clear J1
      go_upto_region 7 with (first | refine wpList_loadA AW rfl _ rfl _ rfl (wn y) (wn_size _) 24 G1.out ?_ | (go_at_call 14; refine (HMu.out _).mono ?_; rintro e w3 ⟨rfl, b3⟩; have J3 := hide (J2.out.next b3); have G3 := hide ((b3.block _ (lt_heap G1.out)).trans G1.out); clear b3) | refine wpList_allocA AW rfl rfl ?_ | refine wpList_storeA AW rfl _ _ rfl _ (wn sq) (wn_size _) (wn_one _) rfl rfl (wn 0) (wn_size _) 24 (blk2x w3 (.cells (wn 0) 24) (.cells (wn 0) 24)).1 ?_ | refine wpList_storeA AW rfl _ _ rfl _ (wn hi) (wn_size _) (wn_one _) rfl rfl (wn 0) (wn_size _) 24 (blk2s w3 (.cells (wn 0) 24) (.cells (wn 0) 24) (wn sq)) ?_)
      obtain ⟨r3, r4, rb⟩ := blk2w w3 24 (wn 0) (wn sq) (wn hi)
      have S1 := hide r3
      have J4 := hide (J3.out.next rb)
      have G4 := hide ((rb.block _ (lt_heap G3.out)).trans G3.out)
      try rw [show (w3.alloc (.cells (wn 0) 24)).heap.size = w3.heap.size + 1 by simp]
      generalize (((w3.alloc (.cells (wn 0) 24)).alloc (.cells (wn 0) 24)).setRow w3.heap.size (wn sq)).setRow (w3.heap.size + 1) (wn hi) = W4 at *
      generalize w3.heap.size = g3 at *
      clear r3 r4 rb J3 G3 J2 G1 HMu
      have a4 := hide J4.out.a
      by_cases hz : z ≤ 0
      · rw [if_pos (hcl.1 hz)] at HST
        clear hcl
        go_wp2_with (first | refine wpList_loadA AW rfl _ rfl _ rfl (wn sq) (wn_size _) 24 S1.out ?_ | refine wpList_loadA AW rfl _ rfl _ rfl (wn m) (wn_size _) 24 a4.out ?_ | (go_at_call 16; refine (HC.out _).mono ?_; rintro e w5 ⟨rfl, b5⟩; have J5 := hide (J4.out.next b5); have G5 := hide ((b5.block _ (lt_heap G4.out)).trans G4.out); have c5 := hide J5.out.c; clear b5) | refine wpList_loadA AW rfl _ rfl _ rfl (wn y) (wn_size _) 24 G5.out ?_ | refine wpList_storeA AW rfl _ _ rfl _ (wn y) (wn_size _) (wn_one _) rfl rfl (wn r) (wn_size _) 24 c5.out ?_)
        have L4 := KK.out
        exact ⟨⟨k, KK.out, rfl, by rw [HST.out]; exact J5.out.put y⟩, by simp [intOf]; omega⟩
      · rw [if_neg (fun h => hz (hcl.2 h))] at HST
        clear hcl
        go_wp2_with (first | refine wpList_loadA AW rfl _ rfl _ rfl (wn sq) (wn_size _) 24 S1.out ?_ | refine wpList_loadA AW rfl _ rfl _ rfl (wn m) (wn_size _) 24 a4.out ?_ | (go_at_call 16; refine (HC.out _).mono ?_; rintro e w5 ⟨rfl, b5⟩; have J5 := hide (J4.out.next b5); clear b5))
        have L4 := KK.out
        exact ⟨⟨k, KK.out, rfl, by rw [HST.out]; exact J5.out⟩, by simp [intOf]; omega⟩
end
end Go.Proofs.Ytmgoecgpdceppaa
