/- The contracts of the library's Mul64, Len64 and LeadingZeros64. -/
import Derived.Test.YtmfpnlnhebjelaaWd
import Derived.Test.YtmfpnlnhebjelaaWe
namespace Go.Proofs.Ytmfpnlnhebjelaa
open Go.RowKit
open Go.Deep
theorem low32 (x : Nat) (h : x < 18446744073709551616) : bits .and .u64 (x : Int) 4294967295 = (x : Int) % 4294967296 := and_low32 _ (by omega) (by omega)
section
set_option maxRecDepth 10000
set_option maxHeartbeats 1000000
theorem mul64_any (x y : Nat) (hx : x < 18446744073709551616) (hy : y < 18446744073709551616) (w : World) : Calls Try.prog 72 #[.int .u64 (x : Int), .int .u64 (y : Int)] w fun e w' => e = .returned (.tuple #[.int .u64 ((x * y / 18446744073709551616 : Nat) : Int), .int .u64 ((x * y % 18446744073709551616 : Nat) : Int)]) ∧ w' = w := by
  have e := mul64_arith x y (by omega) (by omega) (by omega) (by omega)
  have m1 := low32 x hx
  have m2 := low32 y hy
  have e1 : ((x * y / 18446744073709551616 : Nat) : Int) = (x : Int) * y / 18446744073709551616 := by simp
  have e2 : ((x * y % 18446744073709551616 : Nat) : Int) = (x : Int) * y % 18446744073709551616 := by simp
  rw [e1, e2, ← e]
  have m3 := fun z => and_low32 (z % 18446744073709551616) (by omega) (by omega)
  clear e e1 e2
  go_enter Try.func72, Try.ntmps72
  go_wp2
  go_ret2
  simp only [IntKind.wrap_u64, m3]
  exact ⟨rfl, trivial⟩
/-- The library's table of bits. -/
theorem wpList_len8 {w : World} {ops : Array Oper} {rest : List Oper} {o : Oper} {a : Act} {Q : Exit → Act → World → Prop} (hgd : o.guard = none) (T : ByteArray) (x : Operand) (ho : o.op = .index 9 (.const (.string T)) x) (X : Int) (hx : a.eval x = .int .u8 X) (j : Nat) (hX : X = j) (hj : j < 256)
    (hT : ∀ k : Fin 256, T.data[k.val]?.map (·.toNat) = some (bl k.val))
    (h : wpList Try.prog ops Q rest (a.put o.dst (.int .u8 ((bl j : Nat) : Int))) w) : wpList Try.prog ops Q (o :: rest) a w := by
  subst hX
  refine wpList_plain hgd fun K hK => ?_
  have e := hT ⟨j, hj⟩
  simp only [Option.map_eq_some_iff] at e
  obtain ⟨b, hb, hbl⟩ := e
  have hlt : j < T.size := by
    rcases Nat.lt_or_ge j T.data.size with h' | h'
    · exact h'
    · rw [Array.getElem?_eq_none h'] at hb
      cases hb
  have hg : T[j] = b := by
    have h2 := Array.getElem?_eq_getElem (xs := T.data) (i := j) hlt
    rw [hb] at h2
    exact (Option.some.inj h2).symm
  have hr : (Instr.index 9 (.string T) (.int .u8 (j : Int))).run Try.prog w = .ok (.int .u8 ((bl j : Nat) : Int)) w := by
    rw [run_index_string w _ _ _ _ Try.underlying9, dif_pos ⟨by omega, by omega⟩]
    simp [hg, hbl]
  have hc : a.eval (.const (.string T)) = .string T := rfl
  unfold Oper.wp execOp
  simp only [ho, hc, hx, hr, Sem.run_bind, Result.andThen_ok, Sem.run_pure]
  exact hK _ _ h
theorem bl_int (Y : Int) (k : Nat) (c : Int) (hc : c = ((2 ^ k : Nat) : Int)) (h : c ≤ Y) : bl Y.toNat = k + bl (Y / c).toNat := by
  subst hc
  obtain ⟨y, rfl⟩ := Int.eq_ofNat_of_zero_le (Int.le_trans (Int.natCast_nonneg _) h)
  rw [Int.toNat_natCast, ← Int.natCast_ediv, Int.toNat_natCast]
  exact bl_shift y k (by omega)
theorem len_sum (k : Nat) (hk : k ≤ 64) (Y Z : Int) (h1 : Y < 18446744073709551616) (h : bl Z.toNat = k + bl Y.toNat) : wrap64 ((k : Int) + wrap64 ((bl Y.toNat : Nat) : Int)) = ((bl Z.toNat : Nat) : Int) := by
  have hb : bl Y.toNat ≤ 64 := bl_le_of _ 64 (by omega)
  rw [h]
  unfold wrap64
  omega
theorem len64_int (X : Int) (h0 : 0 ≤ X) (h1 : X < 18446744073709551616) (w : World) : Calls Try.prog 62 #[.int .u64 X] w fun e w' => e = .returned (.int .i64 ((bl X.toNat : Nat) : Int)) ∧ w' = w := by
  go_enter Try.func62, Try.ntmps62
  generalize hT0 : ByteArray.mk _ = T
  have hT : Hid (∀ k : Fin 256, T.data[k.val]?.map (·.toNat) = some (bl k.val)) := by
    subst hT0
    show ∀ k : Fin 256, _
    decide +kernel
  clear hT0
  go_wp2_with (refine wpList_len8 rfl _ _ rfl _ rfl (Int.toNat _) (Int.toNat_of_nonneg (by omega)).symm (by omega) hT.out ?_)
  all_goals go_ret
  all_goals refine ⟨ret_int ?_, rfl⟩
  · exact len_sum 56 (by omega) (X / 4294967296 / 65536 / 256) X (by omega) (by rw [bl_int X 32 4294967296 (by decide) (by omega), bl_int _ 16 65536 (by decide) (by omega), bl_int _ 8 256 (by decide) (by omega)]; omega)
  · exact len_sum 48 (by omega) (X / 4294967296 / 65536) X (by omega) (by rw [bl_int X 32 4294967296 (by decide) (by omega), bl_int _ 16 65536 (by decide) (by omega)]; omega)
  · exact len_sum 40 (by omega) (X / 4294967296 / 256) X (by omega) (by rw [bl_int X 32 4294967296 (by decide) (by omega), bl_int _ 8 256 (by decide) (by omega)]; omega)
  · exact len_sum 32 (by omega) (X / 4294967296) X (by omega) (by rw [bl_int X 32 4294967296 (by decide) (by omega)])
  · exact len_sum 24 (by omega) (X / 65536 / 256) X (by omega) (by rw [bl_int X 16 65536 (by decide) (by omega), bl_int _ 8 256 (by decide) (by omega)]; omega)
  · exact len_sum 16 (by omega) (X / 65536) X (by omega) (by rw [bl_int X 16 65536 (by decide) (by omega)])
  · exact len_sum 8 (by omega) (X / 256) X (by omega) (by rw [bl_int X 8 256 (by decide) (by omega)])
  · have := len_sum 0 (by omega) X X h1 (by omega)
    simpa using this
theorem lz64_int (X : Int) (h0 : 0 ≤ X) (h1 : X < 18446744073709551616) (w : World) : Calls Try.prog 68 #[.int .u64 X] w fun e w' => e = .returned (.int .i64 (64 - (bl X.toNat : Int))) ∧ w' = w := by
  have hb : bl X.toNat ≤ 64 := bl_le_of _ 64 (by omega)
  have hl := fun W => len64_int X h0 h1 W
  have hw : IntKind.i64.wrap (64 - (bl X.toNat : Int)) = 64 - (bl X.toNat : Int) := wrapI _ (by omega) (by omega)
  generalize bl X.toNat = b at *
  go_enter Try.func68, Try.ntmps68
  go_wp2_with (go_at_call 62; refine (hl _).mono ?_; rintro e w3 ⟨rfl, hw3⟩; subst w3)
  go_ret
  exact ⟨rfl, rfl⟩
end
end Go.Proofs.Ytmfpnlnhebjelaa
