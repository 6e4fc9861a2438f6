/- The contract of the library's Div64. The contracts of wide.Low, mulAdd, divWord; Div by one word; awake. The document's Add; wide.Low, Div by one word, awake, Sum. -/
import Derived.Test.YtcoojkpimbddlaaGreatDoorX09
import Derived.Deep.CutBlock
namespace Go.Proofs.YtcoojkpimbddlaaGreatDoor
open Go.RowKit
open Go.Deep
theorem norm_bits (y : Nat) (h0 : 0 < y) (h1 : y < 18446744073709551616) : 9223372036854775808 ≤ y * 2 ^ (64 - bl y) ∧ y * 2 ^ (64 - bl y) < 18446744073709551616 := by
  have a := bl_lt y
  have b := bl_le y h0
  have c := bl_pos y h0
  have d : bl y ≤ 64 := bl_le_of y 64 h1
  have p := Nat.two_pow_pos (64 - bl y)
  constructor
  · have e : 2 ^ (bl y - 1) * 2 ^ (64 - bl y) = 9223372036854775808 := by
      rw [← Nat.pow_add, show bl y - 1 + (64 - bl y) = 63 by omega]
    rw [← e]
    exact Nat.mul_le_mul_right _ b
  · have e : 2 ^ bl y * 2 ^ (64 - bl y) = 18446744073709551616 := by
      rw [← Nat.pow_add, show bl y + (64 - bl y) = 64 by omega]
    rw [← e]
    exact Nat.mul_lt_mul_of_pos_right a p
theorem shift_two (hi lo s : Nat) (hs : s ≤ 64) (hl : lo < 18446744073709551616) : (hi * 18446744073709551616 + lo) * 2 ^ s = (hi * 2 ^ s + lo / 2 ^ (64 - s)) * 18446744073709551616 + lo * 2 ^ s % 18446744073709551616 ∧ lo / 2 ^ (64 - s) < 2 ^ s ∧ lo / 2 ^ (64 - s) = lo * 2 ^ s / 18446744073709551616 := by
  have e : 2 ^ (64 - s) * 2 ^ s = 18446744073709551616 := by rw [← Nat.pow_add, show 64 - s + s = 64 by omega]
  have p := Nat.two_pow_pos s
  have q := Nat.two_pow_pos (64 - s)
  have d : lo / 2 ^ (64 - s) = lo * 2 ^ s / 18446744073709551616 := by rw [← e, Nat.mul_div_mul_right _ _ p]
  refine ⟨?_, ?_, d⟩
  · rw [d, Nat.add_mul, Nat.add_mul, Nat.mul_right_comm]
    have := Nat.div_add_mod (lo * 2 ^ s) 18446744073709551616
    omega
  · rw [Nat.div_lt_iff_lt_mul q, Nat.mul_comm, e]
    exact hl
theorem norm_div (n y p : Nat) (hp : 0 < p) : n * p / (y * p) = n / y ∧ n * p % (y * p) / p = n % y := by
  refine ⟨Nat.mul_div_mul_right _ _ hp, ?_⟩
  rw [Nat.mul_mod_mul_right, Nat.mul_div_cancel _ hp]
theorem rest_wrap (u x q v : Nat) (hv : v < 18446744073709551616) (hp : 0 < v) (hq : q = (u * 4294967296 + x) / v) : IntKind.u64.wrap (IntKind.u64.wrap (IntKind.u64.wrap ((u : Int) * 4294967296) + x) - IntKind.u64.wrap ((q : Int) * v)) = (((u * 4294967296 + x) % v : Nat) : Int) := by
  rw [← rest_word u x q v hv hp hq]
  simp only [IntKind.wrap_u64]
  generalize (q : Int) * v = P
  omega
theorem guess_quo (u v1 : Nat) (hu : u < 18446744073709551616) : IntKind.u64.wrap ((u : Int) / v1) = ((u / v1 : Nat) : Int) := by
  have h := Nat.div_le_self u v1
  rw [← Int.natCast_ediv]
  generalize u / v1 = d at *
  exact wrapu _ (by omega) (by omega)
theorem guess_rest (u v1 : Nat) (hu : u < 18446744073709551616) : IntKind.u64.wrap ((u : Int) - IntKind.u64.wrap (((u / v1 : Nat) : Int) * v1)) = ((u % v1 : Nat) : Int) := by
  have e := Nat.div_add_mod u v1
  rw [Nat.mul_comm] at e
  rw [← Int.natCast_mul]
  generalize u / v1 * v1 = P at *
  rw [wrapu (P : Int) (by omega) (by omega), wrapu _ (by omega) (by omega)]
  omega
theorem or_shift (hi lo S : Nat) (hS : S ≤ 64) (hl : lo < 18446744073709551616) (hh : hi * 2 ^ S + lo / 2 ^ (64 - S) < 18446744073709551616) : bits .or .u64 (IntKind.u64.wrap ((hi : Int) * 2 ^ S)) ((lo : Int) / 2 ^ (64 - S)) = ((hi * 2 ^ S + lo / 2 ^ (64 - S) : Nat) : Int) := by
  obtain ⟨_, hlt, _⟩ := shift_two hi lo S hS hl
  have e1 : (hi : Int) * 2 ^ S = ((hi * 2 ^ S : Nat) : Int) := by simp
  have e2 : (lo : Int) / 2 ^ (64 - S) = ((lo / 2 ^ (64 - S) : Nat) : Int) := by simp
  rw [e1, e2, wrapu _ (by omega) (by omega), u64_or_nat _ _ (by omega) (by omega)]
  congr 1
  rw [Nat.mul_comm hi, ← Nat.two_pow_add_eq_or_of_lt hlt]
theorem low_word (lo S : Nat) : IntKind.u64.wrap ((lo : Int) * 2 ^ S) = ((lo * 2 ^ S % 18446744073709551616 : Nat) : Int) := by
  rw [IntKind.wrap_u64]
  simp
section
set_option maxRecDepth 10000
set_option maxHeartbeats 4000000
theorem div64_small (lo y : Nat) (hl : lo < 18446744073709551616) (hy0 : 0 < y) (w : World) : Calls Tryz.prog 291 #[.int .u64 0, .int .u64 (lo : Int), .int .u64 (y : Int)] w fun e w' => e = .returned (.tuple #[.int .u64 ((lo / y : Nat) : Int), .int .u64 ((lo % y : Nat) : Int)]) ∧ Below w.heap.size w w' := by
  have e1 : ((lo / y : Nat) : Int) = (lo : Int) / y := by simp
  have e2 : ((lo % y : Nat) : Int) = (lo : Int) % y := by simp
  have e3 : IntKind.u64.wrap ((lo : Int) / y) = (lo : Int) / y := by
    have := Nat.div_le_self lo y
    rw [← e1]
    generalize lo / y = d at *
    exact wrapu _ (by omega) (by omega)
  rw [e1, e2]
  have h1 : (y : Int) ≠ 0 := by omega
  have h2 : ¬ (y : Int) ≤ 0 := by omega
  clear e1 e2 hy0 hl
  go_enter Tryz.func291, Tryz.ntmps291
  go_upto_region 6 with fail
  go_quiet (fail)
  go_wp2
  go_ret2
  exact ⟨rfl, below_drewN (Below.refl _ _) _⟩
theorem div64_big (hi lo y : Nat) (hh : 0 < hi) (hy : hi < y) (hl : lo < 18446744073709551616) (h64 : y < 18446744073709551616) (w : World) : Calls Tryz.prog 291 #[.int .u64 (hi : Int), .int .u64 (lo : Int), .int .u64 (y : Int)] w fun e w' => e = .returned (.tuple #[.int .u64 (((hi * 18446744073709551616 + lo) / y : Nat) : Int), .int .u64 (((hi * 18446744073709551616 + lo) % y : Nat) : Int)]) ∧ Below w.heap.size w w' := by
  have h1 : (y : Int) ≠ 0 := by omega
  have h2 : ¬ (y : Int) ≤ hi := by omega
  have h3 : (hi : Int) ≠ 0 := by omega
  have hb : bl y ≤ 64 := bl_le_of y 64 h64
  have hb1 := bl_pos y (by omega)
  obtain ⟨n1, n2⟩ := norm_bits y (by omega) h64
  obtain ⟨S, hS⟩ : ∃ S, S = 64 - bl y := ⟨_, rfl⟩
  rw [← hS] at n1 n2
  have HZ : Hid (∀ W, Calls Tryz.prog 317 #[.int .u64 (y : Int)] W fun e w' => e = .returned (.int .i64 (S : Int)) ∧ w' = W) := fun W => by
    have := lz64_int y (by omega) (by omega) W
    rw [Int.toNat_natCast, show (64 : Int) - (bl y : Int) = (S : Int) by omega] at this
    exact this
  have hS6 : (S : Int) ≤ 64 := by omega
  have w1 : IntKind.u64.wrap (S : Int) = S := wrapu _ (by omega) (by omega)
  have w2 : IntKind.u64.wrap (64 - (S : Int)) = 64 - S := wrapu _ (by omega) (by omega)
  have w3 : (64 - (S : Int)).toNat = 64 - S := by omega
  obtain ⟨s1, s2, s3⟩ := shift_two hi lo S (by omega) hl
  have hp := Nat.two_pow_pos S
  have hu : hi * 2 ^ S + lo / 2 ^ (64 - S) < y * 2 ^ S := by
    have : (hi + 1) * 2 ^ S ≤ y * 2 ^ S := Nat.mul_le_mul_right _ hy
    rw [Nat.add_mul] at this
    omega
  have fU := or_shift hi lo S (by omega) hl (by omega)
  have fL := low_word lo S
  have fV := low_word y S
  rw [Nat.mod_eq_of_lt n2] at fV
  have hLl := Nat.mod_lt (lo * 2 ^ S) (show 0 < 18446744073709551616 by decide)
  obtain ⟨d1, d2⟩ := norm_div (hi * 18446744073709551616 + lo) y (2 ^ S) hp
  rw [s1] at d1 d2
  rw [← d1, ← d2]
  have HP : Hid (((2 : Int) ^ S) = ((2 ^ S : Nat) : Int)) := by unfold Hid; simp
  clear s1 s2 s3 d1 d2 hS hb hb1 hl h64
  generalize y * 2 ^ S = V at *
  generalize hi * 2 ^ S + lo / 2 ^ (64 - S) = u at *
  generalize lo * 2 ^ S % 18446744073709551616 = L at *
  have fM := low32 V n2
  have fN := low32 L hLl
  obtain ⟨v1, hv1⟩ : ∃ v1, v1 = V / 4294967296 := ⟨_, rfl⟩
  obtain ⟨v0, hv0⟩ : ∃ v0, v0 = V % 4294967296 := ⟨_, rfl⟩
  obtain ⟨x1, hx1⟩ : ∃ x1, x1 = L / 4294967296 := ⟨_, rfl⟩
  obtain ⟨x0, hx0⟩ : ∃ x0, x0 = L % 4294967296 := ⟨_, rfl⟩
  have hVs : V = v1 * 4294967296 + v0 := by omega
  have hLs : L = x1 * 4294967296 + x0 := by omega
  have t2s := two_steps u x1 x0 V (by omega)
  rw [← hLs] at t2s
  rw [← t2s.1, ← t2s.2]
  obtain ⟨q1, hq1⟩ : ∃ q, q = (u * 4294967296 + x1) / V := ⟨_, rfl⟩
  obtain ⟨r1, hr1⟩ : ∃ q, q = (u * 4294967296 + x1) % V := ⟨_, rfl⟩
  have hr1V : r1 < V := by rw [hr1]; exact Nat.mod_lt _ (by omega)
  rw [← hq1, ← hr1]
  obtain ⟨q0, hq0⟩ : ∃ q, q = (r1 * 4294967296 + x0) / V := ⟨_, rfl⟩
  obtain ⟨r0, hr0⟩ : ∃ q, q = (r1 * 4294967296 + x0) % V := ⟨_, rfl⟩
  rw [← hq0, ← hr0]
  have hq1l : q1 < 4294967296 := by rw [hq1, Nat.div_lt_iff_lt_mul (by omega)]; omega
  have hq0l : q0 < 4294967296 := by rw [hq0, Nat.div_lt_iff_lt_mul (by omega)]; omega
  have fR1 := rest_wrap u x1 q1 V n2 (by omega) hq1
  have fR0 := rest_wrap r1 x0 q0 V n2 (by omega) hq0
  rw [← hr1] at fR1
  rw [← hr0] at fR0
  have fG1 := guess_quo u v1 (by omega)
  have fH1 := guess_rest u v1 (by omega)
  have fG0 := guess_quo r1 v1 (by omega)
  have fH0 := guess_rest r1 v1 (by omega)
  have HG0 := hide (Gs.start (v1 := v1) (v0 := v0) (u := u) (x := x1) (by omega) (by omega) (by omega) (by omega) (by omega))
  have HG2 := hide (Gs.start (v1 := v1) (v0 := v0) (u := r1) (x := x0) (by omega) (by omega) (by omega) (by omega) (by omega))
  have HU0 : Hid (u < v1 * 4294967296 + v0) := by unfold Hid; omega
  have HU2 : Hid (r1 < v1 * 4294967296 + v0) := by unfold Hid; omega
  obtain ⟨Q0, HQ0⟩ : ∃ Q, Hid (Q = (u * 4294967296 + x1) / (v1 * 4294967296 + v0)) := ⟨_, rfl⟩
  obtain ⟨Q2, HQ2⟩ : ∃ Q, Hid (Q = (r1 * 4294967296 + x0) / (v1 * 4294967296 + v0)) := ⟨_, rfl⟩
  have eQ0 : Q0 = q1 := by rw [HQ0.out, hq1, hVs]
  have eQ2 : Q2 = q0 := by rw [HQ2.out, hq0, hVs]
  subst eQ0 eQ2
  obtain ⟨Y1, hY1⟩ : ∃ Y : Int, (v1 : Int) = Y := ⟨_, rfl⟩
  obtain ⟨Y0, hY0⟩ : ∃ Y : Int, (v0 : Int) = Y := ⟨_, rfl⟩
  obtain ⟨X0, hX0⟩ : ∃ Y : Int, (x1 : Int) = Y := ⟨_, rfl⟩
  obtain ⟨X2, hX2⟩ : ∃ Y : Int, (x0 : Int) = Y := ⟨_, rfl⟩
  have FV : Hid (2147483648 ≤ v1 ∧ v0 < 4294967296 ∧ v1 < 4294967296 ∧ (v1 : Int) = Y1) := ⟨by omega, by omega, by omega, hY1⟩
  have FV0 := hide hY0
  have FX0 : Hid (X0 = (x1 : Int) ∧ x1 < 4294967296) := ⟨hX0.symm, by omega⟩
  have FX2 : Hid (X2 = (x0 : Int) ∧ x0 < 4294967296) := ⟨hX2.symm, by omega⟩
  have hy1 : (V : Int) / 4294967296 = Y1 := by omega
  have hy0 : (V : Int) % 4294967296 = Y0 := by omega
  have hl1 : (L : Int) / 4294967296 = X0 := by omega
  have hl0 : (L : Int) % 4294967296 = X2 := by omega
  have hY1n : Y1 ≠ 0 := by omega
  rw [hy0] at fM
  rw [hl0] at fN
  rw [hX0] at fR1
  rw [hX2] at fR0
  rw [hY1] at fG1 fH1 fG0 fH0
  have fE1 : IntKind.u64.wrap ((Q0 : Int) * 4294967296) = (Q0 : Int) * 4294967296 := wrapu _ (by omega) (by omega)
  have fE2 : IntKind.u64.wrap ((Q0 : Int) * 4294967296 + Q2) = ((Q0 * 4294967296 + Q2 : Nat) : Int) := by rw [wrapu _ (by omega) (by omega)]; omega
  have fE3 : (r0 : Int) / 2 ^ S = ((r0 / 2 ^ S : Nat) : Int) := by rw [HP.out, ← Int.natCast_ediv]
  obtain ⟨QA, hQA⟩ : ∃ k, Q0 * 4294967296 + Q2 = k := ⟨_, rfl⟩
  rw [hQA] at fE2
  rw [hQA]
  generalize r0 / 2 ^ S = RA at *
  generalize hqa : u / v1 = qa at *
  generalize hra : u % v1 = ra at *
  generalize hqb : r1 / v1 = qb at *
  generalize hrb : r1 % v1 = rb at *
  clear hQA hqa hra hqb hrb hY1 hY0 hX0 hX2 hq1 hr1 hq0 hr0 hr1V hv1 hv0 hx1 hx0 hVs hLs t2s hu hLl n1 n2 hh hy hq1l hq0l hp
  go_enter Tryz.func291, Tryz.ntmps291
  go_upto_region 8 with (go_at_call 317; refine (HZ.out _).mono ?_; rintro e w3 ⟨rfl, hw3⟩; subst w3)
  go_upto_block 0 with fail
  go_cut [15, 16] from 67 to 85 (fun q r wx => q = .int .u64 (Q0 : Int) ∧ (∃ R : Int, r = .int .u64 R) ∧ wx = w)
  case first =>
    go_wp2_with fail
    go_loopw [15, 16] (fun q r wr => ∃ Q R : Int, q = .int .u64 Q ∧ r = .int .u64 R ∧ Hid (0 ≤ Q ∧ 0 ≤ R ∧ Gs v1 v0 u x1 Q.toNat R.toNat) ∧ wr = w) (fun q _ _ => (intOf q).toNat)
    case atStart => exact ⟨_, _, rfl, rfl, ⟨by omega, by omega, by rw [Int.toNat_natCast, Int.toNat_natCast]; exact HG0.out⟩, rfl⟩
    case round =>
      obtain ⟨Q, R, rfl, rfl, hG, rfl⟩ := hrel
      obtain ⟨q0, r0, G⟩ := hG.out
      have hle := G.le
      have hr4 := G.r
      obtain ⟨q, rfl⟩ := Int.eq_ofNat_of_zero_le q0
      obtain ⟨r, rfl⟩ := Int.eq_ofNat_of_zero_le r0
      rw [Int.toNat_natCast, Int.toNat_natCast] at G
      have b1 : IntKind.u64.wrap (4294967296 * (r : Int)) = 4294967296 * r := wrapu _ (by omega) (by omega)
      have b2 : IntKind.u64.wrap (4294967296 * (r : Int) + X0) = 4294967296 * r + X0 := wrapu _ (by have := FX0.out; omega) (by have := FX0.out; omega)
      have b3 : IntKind.u64.wrap ((r : Int) + Y1) = r + Y1 := wrapu _ (by have := FV.out; omega) (by have := FV.out; omega)
      have b4 : 4294967296 ≤ q ∨ q < 4294967296 := by omega
      have HG := hide G
      have HLE := hide (And.intro hle hr4)
      clear hG G hle hr4 q0 r0
      rcases b4 with hq | hq
      · have t1 : ((4294967296 : Int) ≤ (q : Int)) := by omega
        have b5 : IntKind.u64.wrap ((q : Int) - 1) = q - 1 := wrapu _ (by omega) (by have := HLE.out; omega)
        have HQ := hide hq
        clear hq
        generalize hqI : (q : Int) = QI at *
        generalize hrI : (r : Int) = RI at *
        have HE := hide (And.intro hqI hrI)
        clear hqI hrI
        by_cases hbr : 4294967296 ≤ RI + Y1
        · go_wp2
          go_meet
          refine ⟨?_, ⟨_, rfl⟩, rfl⟩
          obtain ⟨rfl, rfl⟩ := HE.out
          obtain ⟨e1, e2, e3, e4⟩ := FV.out
          have o := HG.out.out e1 e2 HU0.out FX0.out.2 (.inl HQ.out) (by omega)
          rw [HQ0.out, ← o]
          have := HQ.out
          congr 1
          omega
        · go_wp2
          refine ⟨⟨_, _, rfl, rfl, ?_, trivial⟩, ?_⟩
          · obtain ⟨rfl, rfl⟩ := HE.out
            obtain ⟨e1, e2, e3, e4⟩ := FV.out
            have o := HG.out.next e1 HU0.out FX0.out.2 (.inl HQ.out) (by omega)
            have h1 := HQ.out
            refine ⟨by omega, by omega, ?_⟩
            rw [show ((q : Int) - 1).toNat = q - 1 by omega, show ((r : Int) + Y1).toNat = r + v1 by omega]
            exact o
          · obtain ⟨rfl, rfl⟩ := HE.out
            have h1 := HQ.out
            simp only [intOf]
            omega
      · have hqv : q * v0 < 18446744073709551616 := by
          obtain ⟨e1, e2, e3, e4⟩ := FV.out
          have := Nat.mul_le_mul (show q ≤ 4294967295 by omega) (show v0 ≤ 4294967295 by omega)
          omega
        have t1 : ¬ ((4294967296 : Int) ≤ (q : Int)) := by omega
        have b5 : IntKind.u64.wrap ((q : Int) * Y0) = ((q * v0 : Nat) : Int) := by
          rw [← FV0.out, ← Int.natCast_mul]
          exact wrapu _ (by omega) (by omega)
        have b6 : q = 0 ∨ 1 ≤ q := by omega
        have hb5 : 1 ≤ q → IntKind.u64.wrap ((q : Int) - 1) = q - 1 := fun h => wrapu _ (by omega) (by omega)
        by_cases ht : 4294967296 * r + x1 < q * v0
        · have hq1 := (HG.out.down (by have := FV.out; omega) HU0.out FX0.out.2 (.inr ht)).2.1
          have b7 := hb5 hq1
          have t2 : 4294967296 * (r : Int) + X0 < ((q * v0 : Nat) : Int) := by have := FX0.out; omega
          have HT := hide (And.intro ht hq1)
          clear ht hq1 hb5 b6 hqv hq
          generalize ((q * v0 : Nat) : Int) = P at *
          generalize hqI : (q : Int) = QI at *
          generalize hrI : (r : Int) = RI at *
          have HE := hide (And.intro hqI hrI)
          clear hqI hrI
          by_cases hbr : 4294967296 ≤ RI + Y1
          · go_wp2
            go_meet
            refine ⟨?_, ⟨_, rfl⟩, rfl⟩
            obtain ⟨rfl, rfl⟩ := HE.out
            obtain ⟨e1, e2, e3, e4⟩ := FV.out
            have o := HG.out.out e1 e2 HU0.out FX0.out.2 (.inr HT.out.1) (by omega)
            rw [HQ0.out, ← o]
            have := HT.out.2
            congr 1
            omega
          · go_wp2
            refine ⟨⟨_, _, rfl, rfl, ?_, trivial⟩, ?_⟩
            · obtain ⟨rfl, rfl⟩ := HE.out
              obtain ⟨e1, e2, e3, e4⟩ := FV.out
              have o := HG.out.next e1 HU0.out FX0.out.2 (.inr HT.out.1) (by omega)
              have h1 := HT.out.2
              refine ⟨by omega, by omega, ?_⟩
              rw [show ((q : Int) - 1).toNat = q - 1 by omega, show ((r : Int) + Y1).toNat = r + v1 by omega]
              exact o
            · obtain ⟨rfl, rfl⟩ := HE.out
              have h1 := HT.out.2
              simp only [intOf]
              omega
        · have t2 : ¬ 4294967296 * (r : Int) + X0 < ((q * v0 : Nat) : Int) := by have := FX0.out; omega
          have o := HG.out.done (by have := FV.out; omega) (by omega)
          have HT := hide o
          clear ht hb5 b6 hqv hq o
          generalize ((q * v0 : Nat) : Int) = P at *
          generalize hqI : (q : Int) = QI at *
          generalize hrI : (r : Int) = RI at *
          have HE := hide hqI
          clear hqI hrI
          go_wp2
          go_meet
          refine ⟨?_, ⟨_, rfl⟩, rfl⟩
          rw [HQ0.out, ← HE.out, HT.out]
  obtain ⟨rfl, ⟨RR0, rfl⟩, hwc⟩ := hcut
  subst wc
  go_upto_block 2 with fail
  go_cut [18, 16] from 102 to 120 (fun q r wx => q = .int .u64 (Q2 : Int) ∧ (∃ R : Int, r = .int .u64 R) ∧ wx = w)
  case first =>
    go_wp2_with fail
    go_loopw [18, 16] (fun q r wr => ∃ Q R : Int, q = .int .u64 Q ∧ r = .int .u64 R ∧ Hid (0 ≤ Q ∧ 0 ≤ R ∧ Gs v1 v0 r1 x0 Q.toNat R.toNat) ∧ wr = w) (fun q _ _ => (intOf q).toNat)
    case atStart => exact ⟨_, _, rfl, rfl, ⟨by omega, by omega, by rw [Int.toNat_natCast, Int.toNat_natCast]; exact HG2.out⟩, rfl⟩
    case round =>
      obtain ⟨Q, R, rfl, rfl, hG, rfl⟩ := hrel
      obtain ⟨q0, r0, G⟩ := hG.out
      have hle := G.le
      have hr4 := G.r
      obtain ⟨q, rfl⟩ := Int.eq_ofNat_of_zero_le q0
      obtain ⟨r, rfl⟩ := Int.eq_ofNat_of_zero_le r0
      rw [Int.toNat_natCast, Int.toNat_natCast] at G
      have b1 : IntKind.u64.wrap (4294967296 * (r : Int)) = 4294967296 * r := wrapu _ (by omega) (by omega)
      have b2 : IntKind.u64.wrap (4294967296 * (r : Int) + X2) = 4294967296 * r + X2 := wrapu _ (by have := FX2.out; omega) (by have := FX2.out; omega)
      have b3 : IntKind.u64.wrap ((r : Int) + Y1) = r + Y1 := wrapu _ (by have := FV.out; omega) (by have := FV.out; omega)
      have b4 : 4294967296 ≤ q ∨ q < 4294967296 := by omega
      have HG := hide G
      have HLE := hide (And.intro hle hr4)
      clear hG G hle hr4 q0 r0
      rcases b4 with hq | hq
      · have t1 : ((4294967296 : Int) ≤ (q : Int)) := by omega
        have b5 : IntKind.u64.wrap ((q : Int) - 1) = q - 1 := wrapu _ (by omega) (by have := HLE.out; omega)
        have HQ := hide hq
        clear hq
        generalize hqI : (q : Int) = QI at *
        generalize hrI : (r : Int) = RI at *
        have HE := hide (And.intro hqI hrI)
        clear hqI hrI
        by_cases hbr : 4294967296 ≤ RI + Y1
        · go_wp2
          go_meet
          refine ⟨?_, ⟨_, rfl⟩, rfl⟩
          obtain ⟨rfl, rfl⟩ := HE.out
          obtain ⟨e1, e2, e3, e4⟩ := FV.out
          have o := HG.out.out e1 e2 HU2.out FX2.out.2 (.inl HQ.out) (by omega)
          rw [HQ2.out, ← o]
          have := HQ.out
          congr 1
          omega
        · go_wp2
          refine ⟨⟨_, _, rfl, rfl, ?_, trivial⟩, ?_⟩
          · obtain ⟨rfl, rfl⟩ := HE.out
            obtain ⟨e1, e2, e3, e4⟩ := FV.out
            have o := HG.out.next e1 HU2.out FX2.out.2 (.inl HQ.out) (by omega)
            have h1 := HQ.out
            refine ⟨by omega, by omega, ?_⟩
            rw [show ((q : Int) - 1).toNat = q - 1 by omega, show ((r : Int) + Y1).toNat = r + v1 by omega]
            exact o
          · obtain ⟨rfl, rfl⟩ := HE.out
            have h1 := HQ.out
            simp only [intOf]
            omega
      · have hqv : q * v0 < 18446744073709551616 := by
          obtain ⟨e1, e2, e3, e4⟩ := FV.out
          have := Nat.mul_le_mul (show q ≤ 4294967295 by omega) (show v0 ≤ 4294967295 by omega)
          omega
        have t1 : ¬ ((4294967296 : Int) ≤ (q : Int)) := by omega
        have b5 : IntKind.u64.wrap ((q : Int) * Y0) = ((q * v0 : Nat) : Int) := by
          rw [← FV0.out, ← Int.natCast_mul]
          exact wrapu _ (by omega) (by omega)
        have b6 : q = 0 ∨ 1 ≤ q := by omega
        have hb5 : 1 ≤ q → IntKind.u64.wrap ((q : Int) - 1) = q - 1 := fun h => wrapu _ (by omega) (by omega)
        by_cases ht : 4294967296 * r + x0 < q * v0
        · have hq1 := (HG.out.down (by have := FV.out; omega) HU2.out FX2.out.2 (.inr ht)).2.1
          have b7 := hb5 hq1
          have t2 : 4294967296 * (r : Int) + X2 < ((q * v0 : Nat) : Int) := by have := FX2.out; omega
          have HT := hide (And.intro ht hq1)
          clear ht hq1 hb5 b6 hqv hq
          generalize ((q * v0 : Nat) : Int) = P at *
          generalize hqI : (q : Int) = QI at *
          generalize hrI : (r : Int) = RI at *
          have HE := hide (And.intro hqI hrI)
          clear hqI hrI
          by_cases hbr : 4294967296 ≤ RI + Y1
          · go_wp2
            go_meet
            refine ⟨?_, ⟨_, rfl⟩, rfl⟩
            obtain ⟨rfl, rfl⟩ := HE.out
            obtain ⟨e1, e2, e3, e4⟩ := FV.out
            have o := HG.out.out e1 e2 HU2.out FX2.out.2 (.inr HT.out.1) (by omega)
            rw [HQ2.out, ← o]
            have := HT.out.2
            congr 1
            omega
          · go_wp2
            refine ⟨⟨_, _, rfl, rfl, ?_, trivial⟩, ?_⟩
            · obtain ⟨rfl, rfl⟩ := HE.out
              obtain ⟨e1, e2, e3, e4⟩ := FV.out
              have o := HG.out.next e1 HU2.out FX2.out.2 (.inr HT.out.1) (by omega)
              have h1 := HT.out.2
              refine ⟨by omega, by omega, ?_⟩
              rw [show ((q : Int) - 1).toNat = q - 1 by omega, show ((r : Int) + Y1).toNat = r + v1 by omega]
              exact o
            · obtain ⟨rfl, rfl⟩ := HE.out
              have h1 := HT.out.2
              simp only [intOf]
              omega
        · have t2 : ¬ 4294967296 * (r : Int) + X2 < ((q * v0 : Nat) : Int) := by have := FX2.out; omega
          have o := HG.out.done (by have := FV.out; omega) (by omega)
          have HT := hide o
          clear ht hb5 b6 hqv hq o
          generalize ((q * v0 : Nat) : Int) = P at *
          generalize hqI : (q : Int) = QI at *
          generalize hrI : (r : Int) = RI at *
          have HE := hide hqI
          clear hqI hrI
          go_wp2
          go_meet
          refine ⟨?_, ⟨_, rfl⟩, rfl⟩
          rw [HQ2.out, ← HE.out, HT.out]
  obtain ⟨rfl, ⟨RR2, rfl⟩, hwc⟩ := hcut
  subst wc
  go_wp2
  go_ret2
  exact ⟨rfl, Below.refl _ _⟩
end
theorem div64_any (hi lo y : Nat) (hy : hi < y) (hl : lo < 18446744073709551616) (h64 : y < 18446744073709551616) (w : World) : Calls Tryz.prog 291 #[.int .u64 (hi : Int), .int .u64 (lo : Int), .int .u64 (y : Int)] w fun e w' => e = .returned (.tuple #[.int .u64 (((hi * 18446744073709551616 + lo) / y : Nat) : Int), .int .u64 (((hi * 18446744073709551616 + lo) % y : Nat) : Int)]) ∧ Below w.heap.size w w' := by
  rcases Nat.eq_zero_or_pos hi with h | h
  · subst h
    rw [Nat.zero_mul, Nat.zero_add]
    exact div64_small lo y hl hy w
  · exact div64_big hi lo y h hy hl h64 w
theorem div_step (B m y i : Nat) (hy : 0 < y) (hB : 0 < B) : (m / B ^ (i + 1) % y * B + dg B m i) / y = dg B (m / y) i ∧ (m / B ^ (i + 1) % y * B + dg B m i) % y = m / B ^ i % y := by
  unfold dg
  have e1 : m / B ^ (i + 1) = m / B ^ i / B := by rw [Nat.pow_succ, Nat.div_div_eq_div_mul]
  have e2 : m / y / B ^ i = m / B ^ i / y := by rw [Nat.div_div_eq_div_mul, Nat.div_div_eq_div_mul, Nat.mul_comm]
  rw [e1, e2]
  generalize m / B ^ i = N
  have hN := Nat.div_add_mod N B
  have hH := Nat.div_add_mod (N / B) y
  have hr := Nat.mod_lt (N / B) hy
  have hl := Nat.mod_lt N hB
  have key : N = y * (N / B / y * B) + (N / B % y * B + N % B) := by
    have : B * (N / B) = y * (N / B / y * B) + N / B % y * B := by
      conv => lhs; rw [← hH]
      rw [Nat.mul_add, Nat.mul_comm B (N / B % y), Nat.mul_comm B (y * _), Nat.mul_assoc]
    omega
  have hlt : (N / B % y * B + N % B) / y < B := by
    rw [Nat.div_lt_iff_lt_mul hy]
    have : (N / B % y + 1) * B ≤ y * B := Nat.mul_le_mul_right _ hr
    rw [Nat.add_mul] at this
    rw [Nat.mul_comm B y]
    omega
  refine ⟨?_, ?_⟩
  · conv => rhs; rw [key]
    rw [Nat.mul_add_div hy, Nat.mul_comm (N / B / y) B, Nat.mul_add_mod, Nat.mod_eq_of_lt hlt]
  · conv => rhs; rw [key]
    rw [Nat.mul_add_mod]
def dwf (m y i j : Nat) : Nat := if i ≤ j then wd (m / y) j else wd m j
theorem dwf_four (m y j : Nat) (h : j < 4) : wd m j = dwf m y 4 j := by rw [dwf, if_neg (by omega)]
theorem dwf_zero (m y j : Nat) (_ : j < 4) : dwf m y 0 j = wd (m / y) j := by rw [dwf, if_pos (by omega)]
theorem dwf_step (m y i j : Nat) : (if j = i then wd (m / y) i else dwf m y (i + 1) j) = dwf m y i j := by
  unfold dwf
  by_cases e : j = i
  · rw [if_pos e, if_pos (by omega), e]
  · rw [if_neg e]
    by_cases e2 : i + 1 ≤ j
    · rw [if_pos e2, if_pos (by omega)]
    · rw [if_neg e2, if_neg (by omega)]
theorem dwf_at (m y i : Nat) : dwf m y (i + 1) i = wd m i := by rw [dwf, if_neg (by omega)]
structure Bd (w W : World) (t : TypeId) (f : Nat → Nat) : Prop where
  a : Nd W w.heap.size t 4 f
  r : W.heap[w.heap.size + 1]? = some (.cells (wn 0) t (0, 0))
  bel : Below w.heap.size w W
theorem Bd.start (w : World) (t : TypeId) (m : Nat) : Bd w ((w.alloc (.cells (wn m) t)).alloc (.cells (wn 0) t)) t (wd m) :=
  ⟨Nd.of_heap (blk2x w _ _).1, (blk2x w _ _).2, below2x w _ _⟩
section
variable {w W W' : World} {t : TypeId} {f : Nat → Nat}
theorem Bd.next (j : Bd w W t f) (h : Below W.heap.size W W') : Bd w W' t f :=
  ⟨j.a.below h, (h.block _ (lt_heap j.r)).trans j.r, below_next j.bel h⟩
theorem Bd.set (j : Bd w W t f) (i x : Nat) : Bd w (W.setCell ⟨w.heap.size, i, none⟩ (.int .u64 ((x : Nat) : Int))) t (fun k => if k = i then x else f k) :=
  ⟨j.a.set i x, (Below.heap_setCell _ _ _ _ (by simp)).trans j.r, j.bel.setCell (Nat.le_refl _) _⟩
theorem Bd.congr (j : Bd w W t f) {f' : Nat → Nat} (e : ∀ i, i < 4 → f i = f' i) : Bd w W t f' := ⟨j.a.congr e, j.r, j.bel⟩
end
section
set_option maxRecDepth 10000
set_option maxHeartbeats 1000000
theorem divWord_any (m y : Nat) (hm : m < M) (hy : 0 < y) (hy64 : y < 18446744073709551616) (w : World) : Calls Tryz.prog 237 #[.agg (wn m), .int .u64 (y : Int)] w fun e w' => e = .returned (.tuple #[.agg (wn (m / y)), .int .u64 ((m % y : Nat) : Int)]) ∧ Below w.heap.size w w' := by
  have J0 := hide ((Bd.start w 51 m).congr (fun i hi => dwf_four m y i hi))
  have HY := hide (And.intro hy hy64)
  have H0 : Hid (m / 18446744073709551616 ^ 4 % y = 0) := by
    unfold Hid
    rw [← M_eq, Nat.div_eq_of_lt hm, Nat.zero_mod]
  have H1 : Hid (m / 18446744073709551616 ^ 0 % y = m % y) := by unfold Hid; simp
  clear hy hy64 hm
  obtain ⟨qq, hqq⟩ : ∃ q, q = m / y := ⟨_, rfl⟩
  obtain ⟨rr, hrr⟩ : ∃ q, q = m % y := ⟨_, rfl⟩
  rw [← hqq, ← hrr]
  have HA := hide (And.intro hqq hrr)
  clear hqq hrr
  go_enter Tryz.func237, Tryz.ntmps237
  go_wp2_with (first | refine wpList_boxA rfl _ rfl (wn m) rfl ?_ | refine wpList_allocA AW rfl rfl ?_)
  generalize (w.alloc (.cells (wn m) 51)).alloc (.cells (wn 0) 51) = W0 at *
  go_loopw [6, 7] (fun c d wr => ∃ i : Nat, i ≤ 4 ∧ c = .int .u64 ((m / 18446744073709551616 ^ i % y : Nat) : Int) ∧ d = .int .i64 ((i : Int) - 1) ∧ Hid (Bd w wr 51 (dwf m y i))) (fun _ d _ => (1 + intOf d).toNat)
  case atStart => exact ⟨4, by omega, by rw [H0.out]; rfl, rfl, J0⟩
  case round =>
    clear J0
    obtain ⟨i, hi, rfl, rfl, J⟩ := hrel
    rcases i with _ | i
    · have h0 : ¬ (0 : Int) ≤ ((0 : Nat) : Int) - 1 := by omega
      have H2 := (J.out.a.congr (dwf_zero m y)).heap
      rw [H1.out, ← HA.out.2]
      rw [← HA.out.1] at H2
      go_wp2_with (first | refine wpList_loadA AW rfl _ rfl _ rfl (wn qq) (wn_size _) 51 H2 ?_ | refine wpList_storeA AW rfl _ _ rfl _ (wn qq) (wn_size _) (wn_one _) rfl rfl (wn 0) (wn_size 0) 51 J.out.r ?_)
      exact bodyPost_ret (v := .tuple #[.agg (wn qq), (.int .u64 (rr : Int))]) (resA2 AW Tryz.results237 _ _ (w.heap.size + 1) 51 (wn qq) (wn_size _) rfl (setRow_heap _ _ _ _ _ _ J.out.r) _ (by rfl)) rfl ⟨rfl, below_setRow J.out.bel (by omega) _⟩
    · have e1 : ((i + 1 : Nat) : Int) - 1 = i := by omega
      have hlt : i < 4 := by omega
      have hi4 : (i : Int) < 4 := by omega
      have b0 : (0 : Int) ≤ i := by omega
      have HD := hide fun W => div64_any (m / 18446744073709551616 ^ (i + 1) % y) (wd m i) y (Nat.mod_lt _ HY.out.1) (wd_lt _ _) HY.out.2 W
      have ds := div_step 18446744073709551616 m y i HY.out.1 (by decide)
      have ds1 : (m / 18446744073709551616 ^ (i + 1) % y * 18446744073709551616 + wd m i) / y = wd (m / y) i := ds.1
      have ds2 : (m / 18446744073709551616 ^ (i + 1) % y * 18446744073709551616 + wd m i) % y = m / 18446744073709551616 ^ i % y := ds.2
      rw [ds1, ds2] at HD
      have ha := J.out.a.cell hlt
      rw [dwf_at] at ha
      rw [e1]
      clear ds ds1 ds2
      have HR : Hid (∀ j, (if j = i then wd (m / y) i else dwf m y (i + 1) j) = dwf m y i j) := fun j => dwf_step m y i j
      obtain ⟨r1, hr1⟩ : ∃ r, r = m / 18446744073709551616 ^ (i + 1) % y := ⟨_, rfl⟩
      obtain ⟨r0, hr0⟩ : ∃ r, r = m / 18446744073709551616 ^ i % y := ⟨_, rfl⟩
      obtain ⟨q0, hq0⟩ : ∃ r, r = wd (m / y) i := ⟨_, rfl⟩
      rw [← hr1, ← hr0, ← hq0] at HD
      rw [← hr1]
      rw [← hq0] at HR
      have HR0 := hide hr0
      clear hr1 hq0 hr0
      go_wp2_with (go_at_call 291; refine (HD.out _).mono ?_; rintro e w3 ⟨rfl, b3⟩; have J3 := hide (J.out.next b3); have c3 := J3.out.a.cell hlt; have f3 := J3.out.a.fz i)
      exact ⟨⟨i, by omega, by rw [HR0.out], rfl, hide ((J3.out.set i q0).congr (fun j _ => HR.out j))⟩, by simp [intOf]; omega⟩
end
theorem quiet_loadA {C : World → Prop} {a : Act} {o : Oper} {K : Act → Prop} {t : TypeId} {n : Nat} {z : Array Value} (A : Arr t n z) (x : Operand) (ho : o.op = .load t x) (g : Nat) (hx : a.eval x = .pointer (some ⟨g, 0, none⟩)) (c : Array Value) (hn : c.size = n) (t' : TypeId) (hg : ∀ W, C W → W.heap[g]? = some (.cells c t' (0, 0)))
    (hk : K (a.put o.dst (.agg c))) : o.quiet Tryz.prog a C K := by
  refine ⟨.agg c, fun W hC => ?_, hk⟩
  unfold Oper.quietAt execOp
  simp only [ho, hx, Sem.run_bind, ld_row A hn (hg W hC), Result.andThen_ok, Sem.run_pure]
  exact ⟨rfl, rfl⟩
theorem quiet_neqW {C : World → Prop} {a : Act} {o : Oper} {K : Act → Prop} (t : TypeId) (x y : Operand) (t2 : TypeId) (ho : o.op = .binOp .neq t x y t2) (c d : Array Value) (hx : a.eval x = .agg c) (hy : a.eval y = .agg d) (hg : Tryz.prog.eqGuardType Tryz.prog.depth t = false)
    (v : Bool) (hr : ∀ W, (Op.equalIn 10000 t (.agg c) (.agg d)).run Tryz.prog W = .ok v W) (hk : K (a.put o.dst (.bool !v))) : o.quiet Tryz.prog a C K := by
  refine ⟨.bool !v, fun W _ => ?_, hk⟩
  unfold Oper.quietAt execOp
  simp only [ho, hx, hy, Sem.run_bind, run_eqGuard_agg (P := Tryz.prog) W .neq t x y c d hg, run_neq_struct, hr W, Result.andThen_ok, Sem.run_pure]
  exact ⟨rfl, rfl⟩
def ldW (x : Value) : Sem Value := Instr.loadAt 51 x
theorem ldW_eq (x : Value) : Instr.loadAt 51 x = ldW x := rfl
def svW (x y : Value) : Sem Unit := Instr.storeAt 51 x y
theorem svW_eq (x y : Value) : Instr.storeAt 51 x y = svW x y := rfl
def ldR (x : Value) : Sem Value := Instr.loadAt 50 x
theorem ldR_eq (x : Value) : Instr.loadAt 50 x = ldR x := rfl
def svR (x y : Value) : Sem Unit := Instr.storeAt 50 x y
theorem svR_eq (x y : Value) : Instr.storeAt 50 x y = svR x y := rfl
theorem ldW_row {W : World} {g n : Nat} {t' : TypeId} (h : W.heap[g]? = some (.cells (wn n) t' (0, 0))) : (ldW (.pointer (some ⟨g, 0, none⟩))).run Tryz.prog W = .ok (.agg (wn n)) W := ld_row AW (wn_size n) h
theorem svW_row {w : World} {g m : Nat} {t : TypeId} (hg : w.heap[g]? = some (.cells (wn m) t (0, 0))) (n : Nat) : (svW (.pointer (some ⟨g, 0, none⟩)) (.agg (wn n))).run Tryz.prog w = .ok () (w.setRow g (wn n)) := by
  unfold svW
  simp only [Instr.storeAt, Instr.sureAddr, Sem.run_bind, Sem.run_pure, Result.andThen_ok]
  rw [run_storeVar_row w g t 51 (wn m) (wn n) hg AW.info (by rw [wn_size, wn_size]) (wn_one _)]
section
set_option maxRecDepth 10000
set_option maxHeartbeats 2000000
theorem low_yes (m : Nat) (hm : m < M) (h : m < 18446744073709551616) (w : World) : Calls Tryz.prog 236 #[.agg (wn m)] w fun e w' => e = .returned (.tuple #[.int .u64 (m : Int), .bool true]) ∧ Below w.heap.size w w' := by
  have hl : wd m 0 < M := Nat.lt_trans (wd_lt m 0) (by decide)
  have hv : m = wd m 0 := (wd_small m h).1.symm
  have he := hide fun W => eqW m (wd m 0) hm hl W
  have hd : decide (m = wd m 0) = true := by simp [← hv]
  rw [hd] at he
  have hF := hide fun W => from_any (wd m 0) (wd_lt m 0) W
  have hA : Hid (Nd (w.alloc (.cells (wn m) 51)) w.heap.size 51 4 (wd m)) := nd_alloc w 51 m
  have BB := hide ((Below.refl w.heap.size w).alloc (Nat.le_refl _) (.cells (wn m) 51))
  obtain ⟨x, hx⟩ : ∃ x, x = wd m 0 := ⟨_, rfl⟩
  rw [← hx] at he hF hv
  have HX := hide (And.intro hx hv)
  clear hx hl hm hv hd h
  go_enter Tryz.func236, Tryz.ntmps236
  go_upto_region 1 with (refine wpList_boxA rfl _ rfl (wn m) rfl ?_)
  generalize w.alloc (.cells (wn m) 51) = W0 at *
  obtain ⟨I, hne, F, i0, h0, hJ, hcl⟩ : ∃ (I : Type) (_ : Nonempty I) (F : I → World) (i0 : I), W0.drew = F i0 ∧ Hid (∀ i, Nd (F i) w.heap.size 51 4 (wd m) ∧ Below w.heap.size w (F i)) ∧ Hid (∀ i W', Below (F i).heap.size (F i) W' → ∃ j, W' = F j) :=
    ⟨{W : World // Nd W w.heap.size 51 4 (wd m) ∧ Below w.heap.size w W}, ⟨⟨_, hA.out, BB.out⟩⟩, Subtype.val, ⟨W0.drew, hA.out.drew, BB.out.drew⟩, rfl, fun i => i.2, fun i W' b => ⟨⟨W', i.2.1.below b, below_next i.2.2 b⟩, rfl⟩⟩
  have c0 : ∀ i, (F i).cell? ⟨w.heap.size, 0, none⟩ = some (.int .u64 (x : Int)) := fun i => by rw [HX.out.1]; exact (hJ.out i).1.cell (by omega)
  refine wp_region_class_lit (by kernel_rfl) (by kernel_rfl) i0 h0 ?_
  repeat (first | ((go_big_quiet_want; first | refine quiet_loadA AW _ (by rfl) _ (by rfl) (wn m) (wn_size _) 51 (fun W hC => by obtain ⟨i, rfl⟩ := hC; exact (hJ.out i).1.heap) ?_ | refine quiet_neqW 51 _ _ _ (by rfl) (wn m) (wn x) (by rfl) (by rfl) eqgW true he.out ?_); go_big_quiet_on; simp only [Act.put, List.setIfInBounds_toArray, List.set_cons_succ, List.set_cons_zero, Bool.not_true]) | go_big_quiet_step ((go_at_call 182; exact class_of hcl.out (hF.out _))))
  refine wpQuiet_nil ?_
  rintro _ ⟨iq, rfl⟩
  have e0 := c0 iq
  have B1 := hide (hJ.out iq).2
  clear c0 hcl h0 hJ
  generalize F iq = W3 at *
  go_wp2
  go_ret2
  exact ⟨by rw [HX.out.2]; rfl, B1.out⟩
theorem low_no (m : Nat) (hm : m < M) (h : ¬ m < 18446744073709551616) (w : World) : Calls Tryz.prog 236 #[.agg (wn m)] w fun e w' => e = .returned (.tuple #[.int .u64 0, .bool false]) ∧ Below w.heap.size w w' := by
  have hl : wd m 0 < M := Nat.lt_trans (wd_lt m 0) (by decide)
  have hv : ¬ m = wd m 0 := fun e => h (by rw [e]; exact wd_lt m 0)
  have he := hide fun W => eqW m (wd m 0) hm hl W
  have hd : decide (m = wd m 0) = false := by simp [hv]
  rw [hd] at he
  have hF := hide fun W => from_any (wd m 0) (wd_lt m 0) W
  have hA : Hid (Nd (w.alloc (.cells (wn m) 51)) w.heap.size 51 4 (wd m)) := nd_alloc w 51 m
  have BB := hide ((Below.refl w.heap.size w).alloc (Nat.le_refl _) (.cells (wn m) 51))
  obtain ⟨x, hx⟩ : ∃ x, x = wd m 0 := ⟨_, rfl⟩
  rw [← hx] at he hF hv
  have HX := hide (And.intro hx hv)
  clear hx hl hm hv hd h
  go_enter Tryz.func236, Tryz.ntmps236
  go_upto_region 1 with (refine wpList_boxA rfl _ rfl (wn m) rfl ?_)
  generalize w.alloc (.cells (wn m) 51) = W0 at *
  obtain ⟨I, hne, F, i0, h0, hJ, hcl⟩ : ∃ (I : Type) (_ : Nonempty I) (F : I → World) (i0 : I), W0.drew = F i0 ∧ Hid (∀ i, Nd (F i) w.heap.size 51 4 (wd m) ∧ Below w.heap.size w (F i)) ∧ Hid (∀ i W', Below (F i).heap.size (F i) W' → ∃ j, W' = F j) :=
    ⟨{W : World // Nd W w.heap.size 51 4 (wd m) ∧ Below w.heap.size w W}, ⟨⟨_, hA.out, BB.out⟩⟩, Subtype.val, ⟨W0.drew, hA.out.drew, BB.out.drew⟩, rfl, fun i => i.2, fun i W' b => ⟨⟨W', i.2.1.below b, below_next i.2.2 b⟩, rfl⟩⟩
  have c0 : ∀ i, (F i).cell? ⟨w.heap.size, 0, none⟩ = some (.int .u64 (x : Int)) := fun i => by rw [HX.out.1]; exact (hJ.out i).1.cell (by omega)
  refine wp_region_class_lit (by kernel_rfl) (by kernel_rfl) i0 h0 ?_
  repeat (first | ((go_big_quiet_want; first | refine quiet_loadA AW _ (by rfl) _ (by rfl) (wn m) (wn_size _) 51 (fun W hC => by obtain ⟨i, rfl⟩ := hC; exact (hJ.out i).1.heap) ?_ | refine quiet_neqW 51 _ _ _ (by rfl) (wn m) (wn x) (by rfl) (by rfl) eqgW false he.out ?_); go_big_quiet_on; simp only [Act.put, List.setIfInBounds_toArray, List.set_cons_succ, List.set_cons_zero, Bool.not_false]) | go_big_quiet_step ((go_at_call 182; exact class_of hcl.out (hF.out _))))
  refine wpQuiet_nil ?_
  rintro _ ⟨iq, rfl⟩
  have e0 := c0 iq
  have B1 := hide (hJ.out iq).2
  clear c0 hcl h0 hJ
  generalize F iq = W3 at *
  go_wp2
  go_ret2
  exact ⟨rfl, B1.out⟩
end
end Go.Proofs.YtcoojkpimbddlaaGreatDoor
