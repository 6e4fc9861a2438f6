/- The contract of the document's Compact. -/
import Derived.Test.YtmfpnlnhebjelaaTm
import Derived.Test.YtmfpnlnhebjelaaTd
import Derived.Test.YtmfpnlnhebjelaaTg
namespace Go.Proofs.Ytmfpnlnhebjelaa
open Go.RowKit
open Go.Deep
theorem szB_unique (m s : Nat) (h1 : m < 256 ^ s) (h2 : s = 0 ∨ dg 256 m (s - 1) ≠ 0) : s = szB m := by
  have a1 := szB_lt m
  rw [pow8] at a1
  have a2 : szB m = 0 ∨ 256 ^ (szB m - 1) ≤ m := by
    rcases Nat.eq_zero_or_pos m with h | h
    · left
      rw [h]
      rfl
    · right
      have b1 := bl_le m h
      have b2 := bl_pos m h
      have : 2 ^ (8 * (szB m - 1)) ≤ 2 ^ (bl m - 1) := Nat.pow_le_pow_right (by decide) (by unfold szB; omega)
      rw [pow8] at this
      omega
  have a3 : s = 0 ∨ 256 ^ (s - 1) ≤ m := by
    rcases h2 with h | h
    · exact .inl h
    · right
      rcases Nat.lt_or_ge m (256 ^ (s - 1)) with h' | h'
      · exact absurd (by rw [dg, Nat.div_eq_of_lt h', Nat.zero_mod]) h
      · exact h'
  rcases Nat.lt_trichotomy s (szB m) with h | h | h
  · rcases a2 with a2 | a2
    · omega
    · have : 256 ^ s ≤ 256 ^ (szB m - 1) := Nat.pow_le_pow_right (by decide) (by omega)
      omega
  · exact h
  · rcases a3 with a3 | a3
    · omega
    · have : 256 ^ szB m ≤ 256 ^ (s - 1) := Nat.pow_le_pow_right (by decide) (by omega)
      omega
theorem less_byte (m k : Nat) (h : m < 256 ^ (k + 1)) (hd : dg 256 m k = 0) : m < 256 ^ k := by
  have e := div_byte_step 256 m k
  rw [Nat.div_eq_of_lt h, hd] at e
  have hP : 0 < 256 ^ k := Nat.pow_pos (by decide)
  rcases Nat.lt_or_ge m (256 ^ k) with h' | h'
  · exact h'
  · have := Nat.div_pos h' hP
    omega
/-- The k highest bytes of a number of s bytes. -/
def tk (m s k : Nat) : Nat := if k ≤ s then m / 256 ^ (s - k) else m * 256 ^ (k - s)
theorem tk_lt (m s k : Nat) (h : m < 256 ^ s) : tk m s k < 256 ^ k := by
  unfold tk
  split
  · rename_i hk
    rw [Nat.div_lt_iff_lt_mul (Nat.pow_pos (by decide)), ← Nat.pow_add, show k + (s - k) = s by omega]
    exact h
  · rename_i hk
    have := Nat.mul_lt_mul_of_pos_right h (Nat.pow_pos (n := k - s) (show 0 < 256 by decide))
    rw [← Nat.pow_add, show s + (k - s) = k by omega] at this
    exact this
theorem tk_in (m s k : Nat) (h : k + 1 ≤ s) : tk m s (k + 1) = tk m s k * 256 + dg 256 m (s - (k + 1)) := by
  unfold tk
  rw [if_pos h, if_pos (by omega), div_byte_step 256 m (s - (k + 1)), show s - (k + 1) + 1 = s - k by omega]
  omega
theorem tk_out (m s k : Nat) (h : s < k + 1) : tk m s (k + 1) = tk m s k * 256 := by
  unfold tk
  rw [if_neg (by omega)]
  split
  · rename_i hk
    rw [show k = s by omega, Nat.sub_self, Nat.pow_zero, Nat.div_one, show s + 1 - s = 1 by omega, Nat.pow_one]
  · rw [show k + 1 - s = k - s + 1 by omega, Nat.pow_succ, Nat.mul_assoc]
theorem tk_three (m : Nat) : tk m (szB m) 3 = nmB m := by
  unfold tk nmB
  by_cases h : szB m < 3
  · rw [if_pos h, if_neg (by omega), pow8]
  · rw [if_neg h, if_pos (by omega), pow8]
theorem or_sizeN (s n : Nat) (hs : s ≤ 255) (hn : n < 16777216) : bits .or .u32 ((s : Int) % 4294967296 * 16777216 % 4294967296) (n : Int) = ((s * 16777216 + n : Nat) : Int) := by
  have := or_size s n hs hn
  rw [show (n : Int) % 4294967296 = (n : Int) by omega] at this
  exact this
theorem or_sizeM (s n : Nat) (hs : s ≤ 255) (hn : n < 16777216) : bits .or .u32 ((s : Int) * 16777216) (n : Int) = ((s * 16777216 + n : Nat) : Int) := by
  have := or_sizeN s n hs hn
  rw [show (s : Int) % 4294967296 * 16777216 % 4294967296 = (s : Int) * 16777216 by omega] at this
  exact this
section
set_option maxRecDepth 10000
set_option maxHeartbeats 2000000
theorem compactN_any (m : Nat) (hm : m < MB) (h32 : szB m ≤ 40) (w : World) : Calls Try.prog 25 #[.agg (bn m)] w fun e w' => e = .returned (.int .u32 ((cpt m : Nat) : Int)) ∧ Below w.heap.size w w' := by
  have J0 : Hid (Ni (w.alloc (.cells (bn m) 46)) w.heap.size 46 40 (dg 256 m) ∧ Below w.heap.size w (w.alloc (.cells (bn m) 46))) := ⟨Ni.of_heap (heap_alloc_last w _), (Below.refl _ _).alloc (Nat.le_refl _) _⟩
  have HM := hide (And.intro hm h32)
  clear hm h32
  go_enter Try.func25, Try.ntmps25
  go_wp2_with (refine wpList_boxA rfl _ rfl (bn m) rfl ?_)
  generalize w.alloc (.cells (bn m) 46) = W0 at *
  go_loopw [3] (fun d wr => ∃ s : Nat, s ≤ 40 ∧ d = .int .i64 s ∧ Hid (Ni wr w.heap.size 46 40 (dg 256 m) ∧ Below w.heap.size w wr) ∧ Hid (m < 256 ^ s)) (fun d _ => (intOf d).toNat)
  case atStart => exact ⟨40, by omega, rfl, J0, HM.out.1⟩
  case round =>
    clear J0
    obtain ⟨s, hs, rfl, J, H⟩ := hrel
    by_cases hc : 0 < s ∧ dg 256 m (s - 1) = 0
    · obtain ⟨k, rfl⟩ : ∃ k, s = k + 1 := ⟨s - 1, by omega⟩
      rw [Nat.add_sub_cancel] at hc
      have ca := J.out.1.cell (show k < 40 by omega)
      rw [hc.2] at ca
      have H1 := hide (less_byte m k H.out hc.2)
      have p1 : (0 : Int) < ((k + 1 : Nat) : Int) := by omega
      have p2 : IntKind.i64.wrap (((k + 1 : Nat) : Int) - 1) = (k : Int) := by rw [wrapI _ (by omega) (by omega)]; omega
      have p3 : (k : Int) < 40 := by omega
      have p4 : (0 : Int) ≤ k := by omega
      have KK := hide (And.intro (show k ≤ 40 by omega) (show ((k : Int)).toNat < (((k + 1 : Nat) : Int)).toNat by omega))
      clear hc hs
      generalize ((k + 1 : Nat) : Int) = S at *
      go_wp2
      exact ⟨⟨k, KK.out.1, rfl, J, H1⟩, by simpa [intOf] using KK.out.2⟩
    · have e := szB_unique m s H.out (by
        rcases Nat.eq_zero_or_pos s with h | h
        · exact .inl h
        · exact .inr fun h' => hc ⟨h, h'⟩)
      have E := hide e
      have S0 := hide (show s = 0 ∨ (0 < s ∧ dg 256 m (s - 1) ≠ 0) by
        rcases Nat.eq_zero_or_pos s with h | h
        · exact .inl h
        · exact .inr ⟨h, fun h' => hc ⟨h, h'⟩⟩)
      have HS := hide hs
      clear hc e hs
      rcases S0.out with h0 | ⟨h0, hne⟩
      case' inl =>
        have p0 : ¬ (0 : Int) < (s : Int) := by omega
        have p0d : decide ((0 : Int) < (s : Int)) = false := by simp; omega
        clear h0
        go_wp2
        clear p0 p0d
      case' inr =>
        obtain ⟨k, hk⟩ : ∃ k, s = k + 1 := ⟨s - 1, by omega⟩
        rw [show s - 1 = k by omega] at hne
        have hs := HS.out
        have ca := J.out.1.cell (show k < 40 by omega)
        have p1 : (0 : Int) < (s : Int) := by omega
        have p2 : IntKind.i64.wrap ((s : Int) - 1) = (k : Int) := by rw [wrapI _ (by omega) (by omega)]; omega
        have p3 : (k : Int) < 40 := by omega
        have p4 : (0 : Int) ≤ k := by omega
        have p5 : (((dg 256 m k : Nat) : Int) == 0) = false := by simp; omega
        have p6 : ¬ ((dg 256 m k : Nat) : Int) = 0 := by omega
        clear h0 hk hs hne
        generalize ((dg 256 m k : Nat) : Int) = D at *
        go_wp2
        clear ca p1 p2 p3 p4 p5 p6
      all_goals
        go_loopw [4, 5] (fun c d wq => ∃ k : Nat, k ≤ 3 ∧ c = .int .u32 ((tk m s k : Nat) : Int) ∧ d = .int .i64 ((k : Int) + 1) ∧ Hid (Ni wq w.heap.size 46 40 (dg 256 m) ∧ Below w.heap.size w wq)) (fun _ d _ => (4 - intOf d).toNat)
        case atStart =>
          refine ⟨0, by omega, ?_, rfl, J⟩
          rw [show tk m s 0 = 0 by have := tk_lt m s 0 H.out; omega]
          rfl
        case round =>
          clear J
          obtain ⟨k, hk, rfl, rfl, J⟩ := hrel
          have hs := HS.out
          by_cases hlt : k < 3
          · have l1 : (k : Int) + 1 ≤ 3 := by omega
            have b0 := tk_lt m s k H.out
            have b1 := tk_lt m s (k + 1) H.out
            have b2 : 256 ^ k ≤ 65536 := Nat.le_trans (Nat.pow_le_pow_right (by decide) (show k ≤ 2 by omega)) (by decide)
            have b3 : 256 ^ (k + 1) ≤ 16777216 := Nat.le_trans (Nat.pow_le_pow_right (by decide) (show k + 1 ≤ 3 by omega)) (by decide)
            have c1 : IntKind.i64.wrap ((k : Int) + 1 + 1) = (k : Int) + 1 + 1 := wrapI _ (by omega) (by omega)
            have KK := hide (And.intro (show k + 1 ≤ 3 by omega) (show ((4 : Int) - ((k : Int) + 1 + 1)).toNat < ((4 : Int) - ((k : Int) + 1)).toNat by omega))
            by_cases hin : k + 1 ≤ s
            · have e := tk_in m s k hin
              obtain ⟨j, hj⟩ : ∃ j, j = s - (k + 1) := ⟨_, rfl⟩
              rw [← hj] at e
              have c2 : IntKind.i64.wrap ((s : Int) - ((k : Int) + 1)) = (j : Int) := by rw [wrapI _ (by omega) (by omega)]; omega
              have j0 : (0 : Int) ≤ j := by omega
              have j4 : (j : Int) < 40 := by omega
              have ca := J.out.1.cell (show j < 40 by omega)
              have hd := dg_lt (B := 256) (by decide) m j
              obtain ⟨t1, ht1⟩ : ∃ t, t = tk m s (k + 1) := ⟨_, rfl⟩
              rw [← ht1] at e b1
              have HT := hide ht1
              obtain ⟨d0, hd0⟩ : ∃ t, t = dg 256 m j := ⟨_, rfl⟩
              rw [← hd0] at e hd ca
              obtain ⟨t0, ht0⟩ : ∃ t, t = tk m s k := ⟨_, rfl⟩
              rw [← ht0] at e b0 ⊢
              clear ht1 hd0 ht0 hj
              have w1 : IntKind.u32.wrap ((t0 : Int) * 256) = ((t0 * 256 : Nat) : Int) := by simp only [IntKind.wrap_u32]; omega
              have w2 : IntKind.u32.wrap (d0 : Int) = (d0 : Int) := by simp only [IntKind.wrap_u32]; omega
              have w3 : IntKind.u32.wrap (((t0 * 256 : Nat) : Int) + (d0 : Int)) = (t1 : Int) := by simp only [IntKind.wrap_u32]; omega
              obtain ⟨p, hp⟩ : ∃ p, p = t0 * 256 := ⟨_, rfl⟩
              rw [← hp] at w1 w3
              clear e b0 b1 b2 b3 hp hd hin hlt hk hs
              go_wp2
              exact ⟨⟨k + 1, KK.out.1, by rw [← HT.out], by go_num, J⟩, by simpa [intOf] using KK.out.2⟩
            · have e := tk_out m s k (by omega)
              have c2 : IntKind.i64.wrap ((s : Int) - ((k : Int) + 1)) = (s : Int) - ((k : Int) + 1) := wrapI _ (by omega) (by omega)
              have j0 : ¬ (0 : Int) ≤ (s : Int) - ((k : Int) + 1) := by omega
              obtain ⟨t1, ht1⟩ : ∃ t, t = tk m s (k + 1) := ⟨_, rfl⟩
              rw [← ht1] at e b1
              have HT := hide ht1
              obtain ⟨t0, ht0⟩ : ∃ t, t = tk m s k := ⟨_, rfl⟩
              rw [← ht0] at e b0 ⊢
              clear ht1 ht0
              have w1 : IntKind.u32.wrap ((t0 : Int) * 256) = (t1 : Int) := by simp only [IntKind.wrap_u32]; omega
              clear e b0 b1 b2 b3 hin hlt hk hs
              go_wp2
              exact ⟨⟨k + 1, KK.out.1, by rw [← HT.out], by go_num, J⟩, by simpa [intOf] using KK.out.2⟩
          · have hke : k = 3 := by omega
            subst hke
            have hn := nmB_lt m
            have e3 : tk m s 3 = nmB m := by rw [E.out]; exact tk_three m
            have hcp : cpt m = if 8388608 ≤ nmB m then (s + 1) * 16777216 + nmB m / 256 else s * 16777216 + nmB m := by
              unfold cpt
              rw [E.out]
            have o1 := or_sizeN s (nmB m) (by omega) hn
            have o3 := or_sizeM s (nmB m) (by omega) hn
            have o2 := or_size (s + 1) (nmB m / 256) (by omega) (by omega)
            have w6 : IntKind.i64.wrap ((s : Int) + 1) = ((s + 1 : Nat) : Int) := by rw [wrapI _ (by omega) (by omega)]; omega
            have w7 : ((nmB m : Nat) : Int) / 256 = ((nmB m / 256 : Nat) : Int) := by omega
            have HCP := hide hcp
            rw [e3]
            obtain ⟨s1, hs1⟩ : ∃ x, x = s + 1 := ⟨_, rfl⟩
            rw [← hs1] at o2 w6 HCP
            obtain ⟨n1, hn1⟩ : ∃ x, x = nmB m / 256 := ⟨_, rfl⟩
            rw [← hn1] at o2 w7 HCP
            obtain ⟨n, hne⟩ : ∃ x, x = nmB m := ⟨_, rfl⟩
            rw [← hne] at o1 o3 w7 HCP ⊢
            clear hcp e3 hn hlt hk hs1 hn1 hne hs
            by_cases hge : 8388608 ≤ n
            · rw [if_pos hge] at HCP
              have g1 : (8388608 : Int) ≤ (n : Int) := by omega
              obtain ⟨C, hC⟩ : ∃ C, C = s1 * 16777216 + n1 := ⟨_, rfl⟩
              rw [← hC] at o2 HCP
              clear hC o1 o3 hge
              go_wp2
              go_ret
              exact ⟨by rw [HCP.out]; rfl, J.out.2⟩
            · rw [if_neg hge] at HCP
              have g1 : ¬ (8388608 : Int) ≤ (n : Int) := by omega
              obtain ⟨C, hC⟩ : ∃ C, C = s * 16777216 + n := ⟨_, rfl⟩
              rw [← hC] at o1 o3 HCP
              clear hC o2 hge
              go_wp2
              go_ret
              exact ⟨by rw [HCP.out]; rfl, J.out.2⟩
end
end Go.Proofs.Ytmfpnlnhebjelaa
