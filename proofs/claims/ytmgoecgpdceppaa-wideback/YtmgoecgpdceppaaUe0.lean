/- A text is read back: Parse of Text. -/
import Derived.Test.YtmgoecgpdceppaaUd0
import Derived.Test.YtmgoecgpdceppaaUc0
namespace Go.Proofs.Ytmgoecgpdceppaa
open Go.RowKit
open Go.Deep
theorem txt_size (m k : Nat) : (txt m k).size = k := by
  show (List.map _ (List.range k)).toArray.size = k
  simp
theorem txt_byte (m k i : Nat) (h : i < k) : by8 (txt m k).data.toList i = 48 + dg 10 m (k - 1 - i) := by
  have h' := dg_lt (B := 10) (by decide) m (k - 1 - i)
  simp [txt, by8, h]
  omega
theorem txt_pv (m k : Nat) (hk : m < 10 ^ k) : ∀ i, i ≤ k → pv (txt m k).data.toList i = m / 10 ^ (k - i)
  | 0, _ => by
    rw [Nat.sub_zero, Nat.div_eq_of_lt hk]
    rfl
  | i + 1, h => by
    rw [pv, txt_pv m k hk i (by omega), txt_byte m k i (by omega), show k - i = k - (i + 1) + 1 by omega, Nat.pow_succ, ← Nat.div_div_eq_div_mul, show k - 1 - i = k - (i + 1) by omega, dg]
    omega
theorem txt_ok (m : Nat) (hm : m < M) (i : Nat) (h : i < nd m) : okp (txt m (nd m)).data.toList i := by
  obtain ⟨a1, a2, a3⟩ := nd_spec m
  have h' := dg_lt (B := 10) (by decide) m (nd m - 1 - i)
  have hb := txt_byte m (nd m) i h
  refine ⟨by omega, by omega, ?_, ?_⟩
  · rw [txt_pv m (nd m) a2 (i + 1) (by omega)]
    exact Nat.lt_of_le_of_lt (Nat.div_le_self _ _) hm
  · rcases Nat.eq_zero_or_pos i with h0 | h0
    · exact .inl h0
    · right
      rw [txt_pv m (nd m) a2 i (by omega)]
      rcases a3 with a3 | a3
      · omega
      · have h1 : 10 ^ (nd m - i) ≤ 10 ^ (nd m - 1) := Nat.pow_le_pow_right (by decide) (by omega)
        have := Nat.div_pos (Nat.le_trans h1 a3) (Nat.pow_pos (n := nd m - i) (show 0 < 10 by decide))
        omega
theorem txt_all (m : Nat) : pv (txt m (nd m)).data.toList (nd m) = m := by
  rw [txt_pv m (nd m) (nd_spec m).2.1 (nd m) (Nat.le_refl _), Nat.sub_self, Nat.pow_zero, Nat.div_one]
theorem back_any (m : Nat) (hm : m < M) (w : World) : Calls Try.prog 41 #[.string (txt m (nd m))] w fun e w' => e = .returned (.tuple #[.agg (wn m), .int .i64 0, .int .i64 0]) ∧ Below w.heap.size w w' := by
  have h78 := nd_78 m hm
  refine (parse_any (txt m (nd m)) (by rw [txt_size]; omega) w).mono ?_
  rintro e w' ⟨h, bel⟩
  refine ⟨?_, bel⟩
  rw [txt_size] at h
  rcases h with ⟨i, hi, _, h3, _⟩ | ⟨h1, _⟩ | ⟨_, _, rfl⟩
  · exact absurd (txt_ok m hm i hi) h3
  · exact absurd (nd_spec m).1 (by omega)
  · rw [txt_all]
end Go.Proofs.Ytmgoecgpdceppaa
