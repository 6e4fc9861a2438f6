/- The contracts of wide.Bit, Bits, Not, and the document's Bit, Bits, Not, Compare. -/
import Derived.Test.YtmfpnlnhebjelaaWk
import Derived.Test.YtmfpnlnhebjelaaWq
namespace Go.Proofs.Ytmfpnlnhebjelaa
open Go.RowKit
open Go.Deep
theorem bit_word (n i : Nat) : (bits .and .u64 (((wd n (i / 64) : Nat) : Int) / 2 ^ (i % 64)) 1 == 1) = n.testBit i := by
  have e : ((wd n (i / 64) : Nat) : Int) / 2 ^ (i % 64) = ((wd n (i / 64) / 2 ^ (i % 64) : Nat) : Int) := by simp
  have hlt : wd n (i / 64) / 2 ^ (i % 64) < 18446744073709551616 := Nat.lt_of_le_of_lt (Nat.div_le_self _ _) (wd_lt _ _)
  have h := u64_and_nat (wd n (i / 64) / 2 ^ (i % 64)) 1 hlt (by decide)
  rw [Nat.and_one_is_mod] at h
  rw [e, show (1 : Int) = ((1 : Nat) : Int) from rfl, h, ← wd_bit_at n i, Nat.testBit_eq_decide_div_mod_eq]
  rw [Bool.eq_iff_iff]
  simp
  omega
section
set_option maxRecDepth 10000
set_option maxHeartbeats 2000000
theorem rbit_in (m i : Nat) (hi : i < 256) (w : World) : Calls Try.prog 54 #[.agg (wn m), .int .i64 (i : Int)] w fun e w' => e = .returned (.bool (m.testBit i)) ∧ Below w.heap.size w w' := by
  have hA : Hid (Nd (w.alloc (.cells (wn m) 23)) w.heap.size 23 4 (wd m)) := nd_alloc w 23 m
  have BB := hide ((Below.refl w.heap.size w).alloc (Nat.le_refl _) (.cells (wn m) 23))
  have c0 := hA.out.cell (show i / 64 < 4 by omega)
  have hb := bit_word m i
  have h2 : (i : Int) < 256 := by omega
  have h3 : (i : Int) / 64 = ((i / 64 : Nat) : Int) := by omega
  have h4 : (i : Int) % 64 = ((i % 64 : Nat) : Int) := by omega
  have h5 : ((i / 64 : Nat) : Int) < 4 := by omega
  have h6 : (0 : Int) ≤ ((i / 64 : Nat) : Int) := by omega
  have h7 : ((i % 64 : Nat) : Int) ≤ 64 := by omega
  have h8 : (0 : Int) ≤ ((i % 64 : Nat) : Int) := by omega
  have h9 : (0 : Int) ≤ i := by omega
  generalize i / 64 = q at *
  generalize i % 64 = r at *
  generalize m.testBit i = v at *
  clear hi
  go_enter Try.func54, Try.ntmps54
  go_wp2_with (refine wpList_boxA rfl _ rfl (wn m) rfl ?_)
  go_ret
  exact ⟨by rw [← hb]; rfl, BB.out⟩
theorem rbit_out (m : Nat) (i : Int) (hi : i < 0 ∨ 256 ≤ i) (w : World) : Calls Try.prog 54 #[.agg (wn m), .int .i64 i] w fun e w' => e = .returned (.bool false) ∧ Below w.heap.size w w' := by
  have BB := hide ((Below.refl w.heap.size w).alloc (Nat.le_refl _) (.cells (wn m) 23))
  by_cases h1 : i < 0
  · have h2 : ¬ 0 ≤ i := by omega
    clear hi
    go_enter Try.func54, Try.ntmps54
    go_wp2_with (refine wpList_boxA rfl _ rfl (wn m) rfl ?_)
    go_ret
    exact ⟨rfl, BB.out⟩
  · have h2 : ¬ i < 256 := by omega
    have h3 : 0 ≤ i := by omega
    clear hi
    go_enter Try.func54, Try.ntmps54
    go_wp2_with (refine wpList_boxA rfl _ rfl (wn m) rfl ?_)
    go_ret
    exact ⟨rfl, BB.out⟩
end
end Go.Proofs.Ytmfpnlnhebjelaa
