/- The contracts of wide.Sub, From, Zero, Compare, Low, Not. The mathematics of the library's long division of two words by one. The contracts of the library's Mul64, Len64 and LeadingZeros64. -/
import Derived.Test.YthhojpplbhnnfaaGreatDoorX13
import Derived.Test.YthhojpplbhnnfaaGreatDoorX12
namespace Go.Proofs.YthhojpplbhnnfaaGreatDoor
open Go.RowKit
open Go.Deep
/-- m less n, as a number of 256 bits. -/
def df (m n : Nat) : Nat := m + M - n
theorem wd_M (m i : Nat) (h : i < 4) : wd (m + M) i = wd m i := by
  rw [← wd_mod (m + M) i h, Nat.add_mod_right, wd_mod m i h]
theorem df_add (m n : Nat) (hn : n < M) : df m n + n = m + M := by unfold df; omega
theorem df_word (m n i : Nat) (hn : n < M) (h : i < 4) : wd m i = (wd (df m n) i + wd n i + cy (df m n) n i) % 18446744073709551616 := by
  rw [add_word, df_add m n hn, wd_M m i h]
theorem df_run (x d y c : Nat) (hd : d < 18446744073709551616) (hy : y < 18446744073709551616) (hc : c ≤ 1) (hx : x = (d + y + c) % 18446744073709551616) : (x + 18446744073709551616 - y - c) % 18446744073709551616 = d ∧ (if x < y + c then 1 else 0) = (d + y + c) / 18446744073709551616 := by
  subst hx
  refine ⟨by omega, ?_⟩
  split <;> omega
theorem df_sub (m n i : Nat) (hn : n < M) (h : i < 4) : (wd m i + 18446744073709551616 - wd n i - cy (df m n) n i) % 18446744073709551616 = wd (df m n) i ∧ (if wd m i < wd n i + cy (df m n) n i then 1 else 0) = cy (df m n) n (i + 1) := by
  rw [← cy_step]
  exact df_run _ _ _ _ (wd_lt _ _) (wd_lt _ _) (cy_le _ _ _) (df_word m n i hn h)
theorem df_end (m n : Nat) (hm : m < M) (hn : n < M) : cy (df m n) n 4 = if m < n then 1 else 0 := by
  unfold cy df
  rw [← M_eq, Nat.mod_eq_of_lt hn]
  split
  · rename_i h
    rw [Nat.mod_eq_of_lt (by omega), show m + M - n + n = M + m by omega, Nat.add_div_left _ M_pos, Nat.div_eq_of_lt hm]
  · rename_i h
    rw [show m + M - n = m - n + M by omega, Nat.add_mod_right, Nat.mod_eq_of_lt (by omega), show m - n + n = m by omega, Nat.div_eq_of_lt hm]
section
set_option maxRecDepth 10000
set_option maxHeartbeats 1000000
theorem wsub_any (m n : Nat) (hm : m < M) (hn : n < M) (w : World) : Calls Tryz.prog 153 #[.agg (wn m), .agg (wn n)] w fun e w' => e = .returned (.tuple #[.agg (wn (df m n)), .bool (decide (m < n))]) ∧ Below w.heap.size w w' := by
  have J0 := hide ((Ad.start w 51 m n).congr (fun i _ => wf_zero (df m n) i))
  go_enter Tryz.func153, Tryz.ntmps153
  go_wp2_with (first | refine wpList_boxA rfl _ rfl (wn m) rfl ?_ | refine wpList_boxA rfl _ rfl (wn n) rfl ?_ | refine wpList_allocA AW rfl rfl ?_)
  generalize (((w.alloc (.cells (wn m) 51)).alloc (.cells (wn n) 51)).alloc (.cells (wn 0) 51)).alloc (.cells (wn 0) 51) = W0 at *
  go_loopw [7, 8, 9] (fun c _ d wr => ∃ i : Nat, i ≤ 4 ∧ c = .int .u64 ((cy (df m n) n i : Nat) : Int) ∧ d = .int .i64 i ∧ Hid (Ad w wr 51 m n (wf (df m n) i))) (fun _ _ d _ => (4 - intOf d).toNat)
  case atStart => exact ⟨0, by omega, by rw [cy_zero]; rfl, rfl, J0⟩
  case round =>
    clear J0
    obtain ⟨i, hi, rfl, rfl, J⟩ := hrel
    by_cases hlt : i < 4
    · have ha := J.out.a.cell hlt
      have hb := J.out.b.cell hlt
      have ho := J.out.o.cell hlt
      have hf := J.out.o.fz i
      have hi4 : (i : Int) < 4 := by omega
      have hC := fun W => sub64_run (wd m i) (wd n i) _ (cy_le (df m n) n i) W
      rw [(df_sub m n i hn hlt).1, (df_sub m n i hn hlt).2] at hC
      generalize hd : df m n = D at *
      clear hd
      go_upto_region 6 with fail
      go_region_with (simp only [hC])
      all_goals (go_wp2; exact ⟨⟨i + 1, by omega, rfl, by go_num, hide ((J.out.drew.set i _).congr (fun k _ => wf_step D i k))⟩, by simp [intOf]; omega⟩)
    · have hke : i = 4 := by omega
      subst hke
      have H2 := (J.out.o.congr (wf_four (df m n))).heap
      have hE : (((cy (df m n) n 4 : Nat) : Int) != 0) = decide (m < n) := by
        rw [df_end m n hm hn]
        by_cases h : m < n <;> simp [h]
      generalize cy (df m n) n 4 = c at *
      go_wp2_with (first | refine wpList_loadA AW rfl _ rfl _ rfl (wn (df m n)) (wn_size _) 51 H2 ?_ | refine wpList_storeA AW rfl _ _ rfl _ (wn (df m n)) (wn_size _) (wn_one _) rfl rfl (wn 0) (wn_size 0) 51 J.out.r ?_)
      exact bodyPost_ret (v := .tuple #[.agg (wn (df m n)), .bool (decide (m < n))]) (resA2 AW Tryz.results153 _ _ (w.heap.size + 1 + 1) 51 (wn (df m n)) (wn_size _) rfl (setRow_heap _ _ _ _ _ _ J.out.r) _ (by rfl)) rfl ⟨rfl, below_setRow J.out.bel (by omega) _⟩
theorem from_any (x : Nat) (hx : x < 18446744073709551616) (w : World) : Calls Tryz.prog 144 #[.int .u64 (x : Int)] w fun e w' => e = .returned (.agg (wn x)) ∧ Below w.heap.size w w' := by
  have HB := hide fun W => run_buildW x hx W
  go_enter Tryz.func144, Tryz.ntmps144
  go_wp2_with (first | refine wpList_allocA AW rfl rfl ?_ | refine wpList_build1 rfl _ rfl _ (wn x) HB.out rfl ?_ | refine wpList_store_newA AW rfl _ _ rfl _ rfl (wn x) (wn_size _) (wn_one _) rfl rfl ?_)
  exact bodyPost_ret (v := .agg (wn x)) (resA AW Tryz.results144 _ _ w.heap.size 51 (wn x) (wn_size _) rfl (heap_alloc_last _ _)) rfl ⟨rfl, (Below.refl _ _).alloc (Nat.le_refl _) _⟩
theorem zero_any (m : Nat) (hm : m < M) (w : World) : Calls Tryz.prog 128 #[.agg (wn m)] w fun e w' => e = .returned (.bool (decide (m = 0))) ∧ Below w.heap.size w w' := by
  have HE := hide fun W => eqW m 0 hm M_pos W
  have H1 := hide (heap_alloc_last w (.cells (wn m) 51))
  generalize decide (m = 0) = v at *
  go_enter Tryz.func128, Tryz.ntmps128
  go_wp2_with (first | refine wpList_boxA rfl _ rfl (wn m) rfl ?_ | refine wpList_loadA AW rfl _ rfl _ rfl (wn m) (wn_size _) 51 H1.out ?_ | refine wpList_buildA AW rfl rfl ?_ | refine wpList_eql 51 _ _ _ rfl (wn m) (wn 0) rfl rfl rfl eqgW v HE.out ?_)
  go_ret
  exact ⟨rfl, (Below.refl _ _).alloc (Nat.le_refl _) _⟩
/-- How two numbers stand. -/
def cmpZ (m n : Nat) : Int := if m < n then -1 else if m = n then 0 else 1
theorem compare_any (m n : Nat) (hm : m < M) (hn : n < M) (w : World) : Calls Tryz.prog 112 #[.agg (wn m), .agg (wn n)] w fun e w' => e = .returned (.int .i64 (cmpZ m n)) ∧ Below w.heap.size w w' := by
  have HE := hide fun W => eqW m n hm hn W
  obtain ⟨e1, e2⟩ := blk2x w (.cells (wn m) 51) (.cells (wn n) 51)
  have H1 := hide e1
  have H2 := hide e2
  have BB := hide (below2x w (.cells (wn m) 51) (.cells (wn n) 51))
  have HS := hide fun W => wsub_any m n hm hn W
  clear e1 e2
  by_cases h0 : m = n
  · have hv : decide (m = n) = true := by simp [h0]
    rw [hv] at HE
    have hz : cmpZ m n = 0 := by simp [cmpZ, h0]
    rw [hz]
    clear h0 hv hz
    go_enter Tryz.func112, Tryz.ntmps112
    go_wp2_with (first | refine wpList_boxA rfl _ rfl (wn m) rfl ?_ | refine wpList_boxA rfl _ rfl (wn n) rfl ?_ | refine wpList_loadA AW rfl _ rfl _ rfl (wn m) (wn_size _) 51 H1.out ?_ | refine wpList_loadA AW rfl _ rfl _ rfl (wn n) (wn_size _) 51 H2.out ?_ | refine wpList_eql 51 _ _ _ rfl (wn m) (wn n) rfl rfl rfl eqgW true HE.out ?_)
    go_ret
    exact ⟨rfl, BB.out⟩
  · have hv : decide (m = n) = false := by simp [h0]
    rw [hv] at HE
    by_cases hlt : m < n
    · have hz : cmpZ m n = -1 := by simp [cmpZ, hlt]
      have hd : decide (m < n) = true := by simp [hlt]
      rw [hd] at HS
      rw [hz]
      generalize df m n = D at *
      clear h0 hv hlt hd hz
      go_enter Tryz.func112, Tryz.ntmps112
      go_wp2_with (first | refine wpList_boxA rfl _ rfl (wn m) rfl ?_ | refine wpList_boxA rfl _ rfl (wn n) rfl ?_ | refine wpList_loadA AW rfl _ rfl _ rfl (wn m) (wn_size _) 51 H1.out ?_ | refine wpList_loadA AW rfl _ rfl _ rfl (wn n) (wn_size _) 51 H2.out ?_ | refine wpList_eql 51 _ _ _ rfl (wn m) (wn n) rfl rfl rfl eqgW false HE.out ?_ | (go_at_call 153; refine (HS.out _).mono ?_; rintro e w1 ⟨rfl, b1⟩; have B1 := hide (below_next BB.out b1)) | refine wpList_allocA AW rfl rfl ?_ | refine wpList_store_newA AW rfl _ _ rfl _ rfl (wn D) (wn_size _) (wn_one _) rfl rfl ?_)
      go_ret
      exact ⟨rfl, below_next B1.out ((Below.refl _ _).alloc (Nat.le_refl _) _)⟩
    · have hz : cmpZ m n = 1 := by simp [cmpZ, hlt, h0]
      have hd : decide (m < n) = false := by simp [hlt]
      rw [hd] at HS
      rw [hz]
      generalize df m n = D at *
      clear h0 hv hlt hd hz
      go_enter Tryz.func112, Tryz.ntmps112
      go_wp2_with (first | refine wpList_boxA rfl _ rfl (wn m) rfl ?_ | refine wpList_boxA rfl _ rfl (wn n) rfl ?_ | refine wpList_loadA AW rfl _ rfl _ rfl (wn m) (wn_size _) 51 H1.out ?_ | refine wpList_loadA AW rfl _ rfl _ rfl (wn n) (wn_size _) 51 H2.out ?_ | refine wpList_eql 51 _ _ _ rfl (wn m) (wn n) rfl rfl rfl eqgW false HE.out ?_ | (go_at_call 153; refine (HS.out _).mono ?_; rintro e w1 ⟨rfl, b1⟩; have B1 := hide (below_next BB.out b1)) | refine wpList_allocA AW rfl rfl ?_ | refine wpList_store_newA AW rfl _ _ rfl _ rfl (wn D) (wn_size _) (wn_one _) rfl rfl ?_)
      go_ret
      exact ⟨rfl, below_next B1.out ((Below.refl _ _).alloc (Nat.le_refl _) _)⟩
end
end Go.Proofs.YthhojpplbhnnfaaGreatDoor
namespace Go.Proofs.YthhojpplbhnnfaaGreatDoor
/-- What is known in a loop that brings a guessed digit down: v = v1 * 2^32 + v0 divides u * 2^32 + x. -/
structure Gs (v1 v0 u x q r : Nat) : Prop where
  sum : q * v1 + r = u
  ge : (u * 4294967296 + x) / (v1 * 4294967296 + v0) ≤ q
  le : q ≤ 4294967297
  r : r < 4294967296
section
variable {v1 v0 u x q r : Nat}
theorem Gs.prod (h : Gs v1 v0 u x q r) : q * (v1 * 4294967296 + v0) + r * 4294967296 = u * 4294967296 + q * v0 := by
  rw [← h.sum, Nat.mul_add, Nat.add_mul, Nat.mul_assoc]
  omega
theorem Gs.start (h1 : 2147483648 ≤ v1) (h0 : v0 < 4294967296) (hv1 : v1 < 4294967296) (hu : u < v1 * 4294967296 + v0) (hx : x < 4294967296) : Gs v1 v0 u x (u / v1) (u % v1) := by
  have hp : 0 < v1 := by omega
  refine ⟨by rw [Nat.mul_comm]; exact Nat.div_add_mod u v1, ?_, ?_, ?_⟩
  · apply Nat.le_of_lt_succ
    rw [Nat.div_lt_iff_lt_mul (by omega)]
    have e := Nat.div_add_mod u v1
    have hm := Nat.mod_lt u hp
    have e2 : (u / v1 + 1) * (v1 * 4294967296 + v0) = (v1 * (u / v1) + v1) * 4294967296 + (u / v1 + 1) * v0 := by
      rw [Nat.mul_add, ← Nat.mul_assoc, Nat.add_mul (u / v1) 1 v1, Nat.one_mul, Nat.mul_comm (u / v1) v1]
    rw [Nat.succ_eq_add_one, e2]
    omega
  · have : u / v1 < 4294967298 := by
      rw [Nat.div_lt_iff_lt_mul hp]
      omega
    omega
  · have := Nat.mod_lt u hp
    omega
/-- The test passes: the guess is the digit. -/
theorem Gs.done (h : Gs v1 v0 u x q r) (h1 : 0 < v1 * 4294967296 + v0) (ht : q * v0 ≤ 4294967296 * r + x) : q = (u * 4294967296 + x) / (v1 * 4294967296 + v0) := by
  have hp := h.prod
  refine Nat.le_antisymm ?_ h.ge
  rw [Nat.le_div_iff_mul_le h1]
  omega
/-- The test fails: the guess is too great. -/
theorem Gs.down (h : Gs v1 v0 u x q r) (_ : 2147483648 ≤ v1) (hu : u < v1 * 4294967296 + v0) (hx : x < 4294967296) (ht : 4294967296 ≤ q ∨ 4294967296 * r + x < q * v0) : (u * 4294967296 + x) / (v1 * 4294967296 + v0) ≤ q - 1 ∧ 1 ≤ q ∧ (q - 1) * v1 + (r + v1) = u := by
  have hp := h.prod
  have hq : 1 ≤ q := by
    rcases ht with ht | ht
    · omega
    · rcases Nat.eq_zero_or_pos q with h0 | h0
      · subst h0
        omega
      · omega
  refine ⟨?_, hq, ?_⟩
  · have : (u * 4294967296 + x) / (v1 * 4294967296 + v0) < q := by
      rcases ht with ht | ht
      · refine Nat.lt_of_lt_of_le ?_ ht
        rw [Nat.div_lt_iff_lt_mul (by omega)]
        omega
      · rw [Nat.div_lt_iff_lt_mul (by omega)]
        omega
    omega
  · obtain ⟨k, rfl⟩ : ∃ k, q = k + 1 := ⟨q - 1, by omega⟩
    have := h.sum
    rw [Nat.add_mul] at this
    rw [Nat.add_sub_cancel]
    omega
theorem Gs.next (h : Gs v1 v0 u x q r) (h1 : 2147483648 ≤ v1) (hu : u < v1 * 4294967296 + v0) (hx : x < 4294967296) (ht : 4294967296 ≤ q ∨ 4294967296 * r + x < q * v0) (hr : r + v1 < 4294967296) : Gs v1 v0 u x (q - 1) (r + v1) := by
  obtain ⟨a, b, c⟩ := h.down h1 hu hx ht
  have := h.le
  exact ⟨c, a, by omega, hr⟩
theorem Gs.out (h : Gs v1 v0 u x q r) (h1 : 2147483648 ≤ v1) (h0 : v0 < 4294967296) (hu : u < v1 * 4294967296 + v0) (hx : x < 4294967296) (ht : 4294967296 ≤ q ∨ 4294967296 * r + x < q * v0) (hr : 4294967296 ≤ r + v1) : q - 1 = (u * 4294967296 + x) / (v1 * 4294967296 + v0) := by
  obtain ⟨a, b, c⟩ := h.down h1 hu hx ht
  have hl := h.le
  refine Nat.le_antisymm ?_ a
  rw [Nat.le_div_iff_mul_le (by omega)]
  have e : (q - 1) * (v1 * 4294967296 + v0) = ((q - 1) * v1) * 4294967296 + (q - 1) * v0 := by rw [Nat.mul_add, Nat.mul_assoc]
  have f : (q - 1) * v0 ≤ 4294967296 * 4294967295 := Nat.mul_le_mul (by omega) (by omega)
  rw [e]
  generalize (q - 1) * v1 = A at *
  generalize (q - 1) * v0 = B at *
  omega
end
/-- The remainder of a step, in words. -/
theorem rest_word (u x q v : Nat) (hv : v < 18446744073709551616) (hp : 0 < v) (hq : q = (u * 4294967296 + x) / v) : ((u : Int) * 4294967296 + x - q * v) % 18446744073709551616 = (((u * 4294967296 + x) % v : Nat) : Int) := by
  subst hq
  have e := Nat.div_add_mod (u * 4294967296 + x) v
  have hm := Nat.mod_lt (u * 4294967296 + x) hp
  rw [Nat.mul_comm v] at e
  have e2 : (((u * 4294967296 + x) / v : Nat) : Int) * v = (((u * 4294967296 + x) / v * v : Nat) : Int) := by rw [Int.natCast_mul]
  rw [e2]
  generalize (u * 4294967296 + x) / v * v = A at *
  generalize (u * 4294967296 + x) % v = R at *
  omega
/-- Two steps are a division. -/
theorem two_steps (u x1 x0 v : Nat) (hp : 0 < v) : (u * 4294967296 + x1) / v * 4294967296 + ((u * 4294967296 + x1) % v * 4294967296 + x0) / v = (u * 18446744073709551616 + (x1 * 4294967296 + x0)) / v ∧ ((u * 4294967296 + x1) % v * 4294967296 + x0) % v = (u * 18446744073709551616 + (x1 * 4294967296 + x0)) % v := by
  have e := Nat.div_add_mod (u * 4294967296 + x1) v
  have e2 : u * 18446744073709551616 + (x1 * 4294967296 + x0) = v * ((u * 4294967296 + x1) / v * 4294967296) + ((u * 4294967296 + x1) % v * 4294967296 + x0) := by
    rw [← Nat.mul_assoc]
    omega
  rw [e2]
  exact ⟨(Nat.mul_add_div hp _ _).symm, (Nat.mul_add_mod _ _ _).symm⟩
end Go.Proofs.YthhojpplbhnnfaaGreatDoor
namespace Go.Proofs.YthhojpplbhnnfaaGreatDoor
open Go.RowKit
open Go.Deep
theorem low32 (x : Nat) (h : x < 18446744073709551616) : bits .and .u64 (x : Int) 4294967295 = (x : Int) % 4294967296 := and_low32 _ (by omega) (by omega)
section
set_option maxRecDepth 10000
set_option maxHeartbeats 1000000
theorem mul64_any (x y : Nat) (hx : x < 18446744073709551616) (hy : y < 18446744073709551616) (w : World) : Calls Tryz.prog 251 #[.int .u64 (x : Int), .int .u64 (y : Int)] w fun e w' => e = .returned (.tuple #[.int .u64 ((x * y / 18446744073709551616 : Nat) : Int), .int .u64 ((x * y % 18446744073709551616 : Nat) : Int)]) ∧ w' = w := by
  have e := mul64_arith x y (by omega) (by omega) (by omega) (by omega)
  have m1 := low32 x hx
  have m2 := low32 y hy
  have e1 : ((x * y / 18446744073709551616 : Nat) : Int) = (x : Int) * y / 18446744073709551616 := by simp
  have e2 : ((x * y % 18446744073709551616 : Nat) : Int) = (x : Int) * y % 18446744073709551616 := by simp
  rw [e1, e2, ← e]
  have m3 := fun z => and_low32 (z % 18446744073709551616) (by omega) (by omega)
  clear e e1 e2
  go_enter Tryz.func251, Tryz.ntmps251
  go_wp2
  go_ret2
  simp only [IntKind.wrap_u64, m3]
  exact ⟨rfl, trivial⟩
/-- The library's table of bits. -/
theorem wpList_len8 {w : World} {ops : Array Oper} {rest : List Oper} {o : Oper} {a : Act} {Q : Exit → Act → World → Prop} (hgd : o.guard = none) (T : ByteArray) (x : Operand) (ho : o.op = .index 9 (.const (.string T)) x) (X : Int) (hx : a.eval x = .int .u8 X) (j : Nat) (hX : X = j) (hj : j < 256)
    (hT : ∀ k : Fin 256, T.data[k.val]?.map (·.toNat) = some (bl k.val))
    (h : wpList Tryz.prog ops Q rest (a.put o.dst (.int .u8 ((bl j : Nat) : Int))) w) : wpList Tryz.prog ops Q (o :: rest) a w := by
  subst hX
  refine wpList_plain hgd fun K hK => ?_
  have e := hT ⟨j, hj⟩
  simp only [Option.map_eq_some_iff] at e
  obtain ⟨b, hb, hbl⟩ := e
  have hlt : j < T.size := by
    rcases Nat.lt_or_ge j T.data.size with h' | h'
    · exact h'
    · rw [Array.getElem?_eq_none h'] at hb
      cases hb
  have hg : T[j] = b := by
    have h2 := Array.getElem?_eq_getElem (xs := T.data) (i := j) hlt
    rw [hb] at h2
    exact (Option.some.inj h2).symm
  have hr : (Instr.index 9 (.string T) (.int .u8 (j : Int))).run Tryz.prog w = .ok (.int .u8 ((bl j : Nat) : Int)) w := by
    rw [run_index_string w _ _ _ _ Tryz.underlying9, dif_pos ⟨by omega, by omega⟩]
    simp [hg, hbl]
  have hc : a.eval (.const (.string T)) = .string T := rfl
  unfold Oper.wp execOp
  simp only [ho, hc, hx, hr, Sem.run_bind, Result.andThen_ok, Sem.run_pure]
  exact hK _ _ h
theorem bl_int (Y : Int) (k : Nat) (c : Int) (hc : c = ((2 ^ k : Nat) : Int)) (h : c ≤ Y) : bl Y.toNat = k + bl (Y / c).toNat := by
  subst hc
  obtain ⟨y, rfl⟩ := Int.eq_ofNat_of_zero_le (Int.le_trans (Int.natCast_nonneg _) h)
  rw [Int.toNat_natCast, ← Int.natCast_ediv, Int.toNat_natCast]
  exact bl_shift y k (by omega)
theorem len_sum (k : Nat) (hk : k ≤ 64) (Y Z : Int) (h1 : Y < 18446744073709551616) (h : bl Z.toNat = k + bl Y.toNat) : wrap64 ((k : Int) + wrap64 ((bl Y.toNat : Nat) : Int)) = ((bl Z.toNat : Nat) : Int) := by
  have hb : bl Y.toNat ≤ 64 := bl_le_of _ 64 (by omega)
  rw [h]
  unfold wrap64
  omega
theorem len64_int (X : Int) (h0 : 0 ≤ X) (h1 : X < 18446744073709551616) (w : World) : Calls Tryz.prog 166 #[.int .u64 X] w fun e w' => e = .returned (.int .i64 ((bl X.toNat : Nat) : Int)) ∧ w' = w := by
  go_enter Tryz.func166, Tryz.ntmps166
  generalize hT0 : ByteArray.mk _ = T
  have hT : Hid (∀ k : Fin 256, T.data[k.val]?.map (·.toNat) = some (bl k.val)) := by
    subst hT0
    show ∀ k : Fin 256, _
    decide +kernel
  clear hT0
  go_wp2_with (refine wpList_len8 rfl _ _ rfl _ rfl (Int.toNat _) (Int.toNat_of_nonneg (by omega)).symm (by omega) hT.out ?_)
  all_goals go_ret
  all_goals refine ⟨ret_int ?_, rfl⟩
  · exact len_sum 56 (by omega) (X / 4294967296 / 65536 / 256) X (by omega) (by rw [bl_int X 32 4294967296 (by decide) (by omega), bl_int _ 16 65536 (by decide) (by omega), bl_int _ 8 256 (by decide) (by omega)]; omega)
  · exact len_sum 48 (by omega) (X / 4294967296 / 65536) X (by omega) (by rw [bl_int X 32 4294967296 (by decide) (by omega), bl_int _ 16 65536 (by decide) (by omega)]; omega)
  · exact len_sum 40 (by omega) (X / 4294967296 / 256) X (by omega) (by rw [bl_int X 32 4294967296 (by decide) (by omega), bl_int _ 8 256 (by decide) (by omega)]; omega)
  · exact len_sum 32 (by omega) (X / 4294967296) X (by omega) (by rw [bl_int X 32 4294967296 (by decide) (by omega)])
  · exact len_sum 24 (by omega) (X / 65536 / 256) X (by omega) (by rw [bl_int X 16 65536 (by decide) (by omega), bl_int _ 8 256 (by decide) (by omega)]; omega)
  · exact len_sum 16 (by omega) (X / 65536) X (by omega) (by rw [bl_int X 16 65536 (by decide) (by omega)])
  · exact len_sum 8 (by omega) (X / 256) X (by omega) (by rw [bl_int X 8 256 (by decide) (by omega)])
  · have := len_sum 0 (by omega) X X h1 (by omega)
    simpa using this
theorem lz64_int (X : Int) (h0 : 0 ≤ X) (h1 : X < 18446744073709551616) (w : World) : Calls Tryz.prog 250 #[.int .u64 X] w fun e w' => e = .returned (.int .i64 (64 - (bl X.toNat : Int))) ∧ w' = w := by
  have hb : bl X.toNat ≤ 64 := bl_le_of _ 64 (by omega)
  have hl := fun W => len64_int X h0 h1 W
  have hw : IntKind.i64.wrap (64 - (bl X.toNat : Int)) = 64 - (bl X.toNat : Int) := wrapI _ (by omega) (by omega)
  generalize bl X.toNat = b at *
  go_enter Tryz.func250, Tryz.ntmps250
  go_wp2_with (go_at_call 166; refine (hl _).mono ?_; rintro e w3 ⟨rfl, hw3⟩; subst w3)
  go_ret
  exact ⟨rfl, rfl⟩
end
end Go.Proofs.YthhojpplbhnnfaaGreatDoor
