/- The contracts of the library's Len64 and Len, of Depth and the document's Depth. -/
import Derived.Test.YthlaibkdcebekaaDoorMgb
import Derived.Test.YthlaibkdcebekaaDoorWm
namespace Go.Proofs.YthlaibkdcebekaaDoor
open Go.RowKit
open Go.Deep
section
set_option maxRecDepth 10000
set_option maxHeartbeats 1000000
/-- The library's table of bits. -/
theorem wpList_len8 {w : World} {ops : Array Oper} {rest : List Oper} {o : Oper} {a : Act} {Q : Exit → Act → World → Prop} (hgd : o.guard = none) (T : ByteArray) (x : Operand) (ho : o.op = .index 9 (.const (.string T)) x) (X : Int) (hx : a.eval x = .int .u8 X) (j : Nat) (hX : X = j) (hj : j < 256)
    (hT : ∀ k : Fin 256, T.data[k.val]?.map (·.toNat) = some (bl k.val))
    (h : wpList Tryd.prog ops Q rest (a.put o.dst (.int .u8 ((bl j : Nat) : Int))) w) : wpList Tryd.prog ops Q (o :: rest) a w := by
  subst hX
  refine wpList_plain hgd fun K hK => ?_
  have e := hT ⟨j, hj⟩
  simp only [Option.map_eq_some_iff] at e
  obtain ⟨b, hb, hbl⟩ := e
  have hlt : j < T.size := by
    rcases Nat.lt_or_ge j T.data.size with h' | h'
    · exact h'
    · rw [Array.getElem?_eq_none h'] at hb
      cases hb
  have hg : T[j] = b := by
    have h2 := Array.getElem?_eq_getElem (xs := T.data) (i := j) hlt
    rw [hb] at h2
    exact (Option.some.inj h2).symm
  have hr : (Instr.index 9 (.string T) (.int .u8 (j : Int))).run Tryd.prog w = .ok (.int .u8 ((bl j : Nat) : Int)) w := by
    rw [run_index_string w _ _ _ _ Tryd.underlying9, dif_pos ⟨by omega, by omega⟩]
    simp [hg, hbl]
  have hc : a.eval (.const (.string T)) = .string T := rfl
  unfold Oper.wp execOp
  simp only [ho, hc, hx, hr, Sem.run_bind, Result.andThen_ok, Sem.run_pure]
  exact hK _ _ h
theorem bl_int (Y : Int) (k : Nat) (c : Int) (hc : c = ((2 ^ k : Nat) : Int)) (h : c ≤ Y) : bl Y.toNat = k + bl (Y / c).toNat := by
  subst hc
  obtain ⟨y, rfl⟩ := Int.eq_ofNat_of_zero_le (Int.le_trans (Int.natCast_nonneg _) h)
  rw [Int.toNat_natCast, ← Int.natCast_ediv, Int.toNat_natCast]
  exact bl_shift y k (by omega)
theorem len_sum (k : Nat) (hk : k ≤ 64) (Y Z : Int) (h1 : Y < 18446744073709551616) (h : bl Z.toNat = k + bl Y.toNat) : wrap64 ((k : Int) + wrap64 ((bl Y.toNat : Nat) : Int)) = ((bl Z.toNat : Nat) : Int) := by
  have hb : bl Y.toNat ≤ 64 := bl_le_of _ 64 (by omega)
  rw [h]
  unfold wrap64
  omega
theorem len64_int (X : Int) (h0 : 0 ≤ X) (h1 : X < 18446744073709551616) (w : World) : Calls Tryd.prog 42 #[.int .u64 X] w fun e w' => e = .returned (.int .i64 ((bl X.toNat : Nat) : Int)) ∧ w' = w := by
  go_enter Tryd.func42, Tryd.ntmps42
  generalize hT0 : ByteArray.mk _ = T
  have hT : Hid (∀ k : Fin 256, T.data[k.val]?.map (·.toNat) = some (bl k.val)) := by
    subst hT0
    show ∀ k : Fin 256, _
    decide +kernel
  clear hT0
  go_wp2_with (refine wpList_len8 rfl _ _ rfl _ rfl (Int.toNat _) (Int.toNat_of_nonneg (by omega)).symm (by omega) hT.out ?_)
  all_goals go_ret
  all_goals refine ⟨ret_int ?_, rfl⟩
  · exact len_sum 56 (by omega) (X / 4294967296 / 65536 / 256) X (by omega) (by rw [bl_int X 32 4294967296 (by decide) (by omega), bl_int _ 16 65536 (by decide) (by omega), bl_int _ 8 256 (by decide) (by omega)]; omega)
  · exact len_sum 48 (by omega) (X / 4294967296 / 65536) X (by omega) (by rw [bl_int X 32 4294967296 (by decide) (by omega), bl_int _ 16 65536 (by decide) (by omega)]; omega)
  · exact len_sum 40 (by omega) (X / 4294967296 / 256) X (by omega) (by rw [bl_int X 32 4294967296 (by decide) (by omega), bl_int _ 8 256 (by decide) (by omega)]; omega)
  · exact len_sum 32 (by omega) (X / 4294967296) X (by omega) (by rw [bl_int X 32 4294967296 (by decide) (by omega)])
  · exact len_sum 24 (by omega) (X / 65536 / 256) X (by omega) (by rw [bl_int X 16 65536 (by decide) (by omega), bl_int _ 8 256 (by decide) (by omega)]; omega)
  · exact len_sum 16 (by omega) (X / 65536) X (by omega) (by rw [bl_int X 16 65536 (by decide) (by omega)])
  · exact len_sum 8 (by omega) (X / 256) X (by omega) (by rw [bl_int X 8 256 (by decide) (by omega)])
  · have := len_sum 0 (by omega) X X h1 (by omega)
    simpa using this
theorem len_any (x : Nat) (h1 : x < 18446744073709551616) (w : World) : Calls Tryd.prog 31 #[.int .u64 (x : Int)] w fun e w' => e = .returned (.int .i64 ((bl x : Nat) : Int)) ∧ w' = w := by
  have HL := hide fun W => len64_int (x : Int) (by omega) (by omega) W
  rw [Int.toNat_natCast] at HL
  clear h1
  go_enter Tryd.func31, Tryd.ntmps31
  go_wp2_with (go_at_call 42; refine (HL.out _).mono ?_; rintro e w3 ⟨rfl, hw3⟩; subst w3)
  go_ret
  exact ⟨rfl, rfl⟩
/-- How many levels there are above n ids. -/
def dp (n : Nat) : Nat := if n < 2 then 0 else bl (n - 1)
theorem dp_step (n : Nat) (h : 2 ≤ n) : dp n = dp ((n + 1) / 2) + 1 := by
  unfold dp
  rw [if_neg (by omega)]
  by_cases h2 : n = 2
  · subst h2
    decide
  · rw [if_neg (by omega), show (n + 1) / 2 - 1 = (n - 1) / 2 by omega]
    have := bl_shift (n - 1) 1 (by omega)
    rw [this, Nat.pow_one]
    omega
theorem dp_low (n : Nat) (h : n < 2) : dp n = 0 := by unfold dp; rw [if_pos h]
theorem dp_le (n : Nat) (h : n < 4294967296) : dp n ≤ 32 := by
  unfold dp
  split
  · omega
  · exact bl_le_of _ 32 (by omega)
theorem depth_any (n : Nat) (h : n < 4294967296) (w : World) : Calls Tryd.prog 17 #[.int .i64 (n : Int)] w fun e w' => e = .returned (.int .i64 ((dp n : Nat) : Int)) ∧ w' = w := by
  by_cases h2 : n < 2
  · rw [dp_low n h2]
    have h3 : (n : Int) < 2 := by omega
    clear h h2
    go_enter Tryd.func17, Tryd.ntmps17
    go_wp2
    go_ret
    exact ⟨rfl, rfl⟩
  · have h3 : ¬ (n : Int) < 2 := by omega
    have HL := hide fun W => len_any (n - 1) (by omega) W
    rw [show bl (n - 1) = dp n by unfold dp; rw [if_neg h2]] at HL
    have e1 : IntKind.i64.wrap ((n : Int) - 1) = ((n - 1 : Nat) : Int) := by rw [wrapI _ (by omega) (by omega)]; omega
    have e2 : IntKind.u64.wrap ((n - 1 : Nat) : Int) = ((n - 1 : Nat) : Int) := wrapu _ (by omega) (by omega)
    clear h h2
    generalize n - 1 = p at *
    go_enter Tryd.func17, Tryd.ntmps17
    go_wp2_with (go_at_call 31; refine (HL.out _).mono ?_; rintro e w3 ⟨rfl, hw3⟩; subst w3)
    go_ret
    exact ⟨rfl, rfl⟩
theorem rdepth_any (n : Nat) (h : n < 4294967296) (w : World) : Calls Tryd.prog 26 #[.int .i64 (n : Int)] w fun e w' => e = .returned (.int .i64 ((dp n : Nat) : Int)) ∧ w' = w := by
  have HD := hide (dp_le n h)
  have HN := hide h
  clear h
  go_enter Tryd.func26, Tryd.ntmps26
  go_wp2
  go_loop [0, 3] (fun x d => ∃ m k : Nat, m < 4294967296 ∧ x = .int .i64 (m : Int) ∧ d = .int .i64 (k : Int) ∧ Hid (dp m + k = dp n)) (fun x _ => (intOf x).toNat)
  case atStart => exact ⟨n, 0, HN.out, rfl, rfl, rfl⟩
  case round =>
    obtain ⟨m, k, hm, rfl, rfl, HW⟩ := hrel
    have hd := HD.out
    have hw := HW.out
    by_cases hlt : 1 < m
    · have h1 : (1 : Int) < (m : Int) := by omega
      have hs := dp_step m hlt
      have e1 : IntKind.i64.wrap ((m : Int) / 2 + (m : Int) % 2) = (((m + 1) / 2 : Nat) : Int) := by rw [wrapI _ (by omega) (by omega)]; omega
      have hjw : IntKind.i64.wrap ((k : Int) + 1) = k + 1 := wrapI _ (by omega) (by omega)
      have HW2 := hide (show dp ((m + 1) / 2) + (k + 1) = dp n by omega)
      have m0 : (0 : Int) ≤ m := by omega
      clear hs hw HW hd
      go_wp2
      go_round
      case rel => exact ⟨(m + 1) / 2, k + 1, by omega, by first | rfl | (congr 1; omega), by go_num, HW2⟩
      case measure => simp [intOf]; omega
    · have h1 : ¬ (1 : Int) < (m : Int) := by omega
      have hs := dp_low m (by omega)
      have HE := hide (show k = dp n by omega)
      clear hs hw HW hd hlt
      go_wp2
      go_ret
      exact ⟨by rw [HE.out]; rfl, rfl⟩
end
end Go.Proofs.YthlaibkdcebekaaDoor
