/- The contract of the document's Mul: its two loops of digits. -/
import Derived.Test.YtmfpnlnhebjelaaWp
namespace Go.Proofs.Ytmfpnlnhebjelaa
open Go.RowKit
open Go.Deep
/-- A digit of 32 bits, out of its word. -/
theorem dg32 (m i : Nat) : wd m (i / 2) / 2 ^ (32 * (i % 2)) % 4294967296 = dg 4294967296 m i := by
  unfold wd dg
  have hp : 4294967296 ^ i = 18446744073709551616 ^ (i / 2) * 2 ^ (32 * (i % 2)) := by
    rw [show (4294967296 : Nat) = 2 ^ 32 from rfl, show (18446744073709551616 : Nat) = 2 ^ 64 from rfl, ← Nat.pow_mul, ← Nat.pow_mul, ← Nat.pow_add]
    congr 1
    omega
  rw [hp, ← Nat.div_div_eq_div_mul]
  generalize m / 18446744073709551616 ^ (i / 2) = X
  rcases (show i % 2 = 0 ∨ i % 2 = 1 by omega) with h | h <;> rw [h]
  · rw [Nat.mul_zero, Nat.pow_zero, Nat.div_one, Nat.div_one]
    omega
  · rw [Nat.mul_one, show 2 ^ 32 = 4294967296 from rfl]
    omega
/-- A word, out of two digits of 32 bits. -/
theorem wd32 (m i : Nat) : dg 4294967296 m (2 * i) + dg 4294967296 m (2 * i + 1) * 4294967296 = wd m i := by
  rw [← dg32, ← dg32, show 2 * i / 2 = i by omega, show (2 * i + 1) / 2 = i by omega, show 2 * i % 2 = 0 by omega, show (2 * i + 1) % 2 = 1 by omega, Nat.mul_zero, Nat.pow_zero, Nat.div_one, Nat.mul_one, show 2 ^ 32 = 4294967296 from rfl]
  have := wd_lt m i
  omega
theorem A16 : Arr 93 16 (nc 16 (fun _ => 0)) := ⟨.inl ⟨_, _, Try.underlying93⟩, by kernel_rfl, fun w => by kernel_rfl, fun w => by kernel_rfl, nc_size 16 _⟩
theorem M_32 : M = 4294967296 ^ 8 := by decide
theorem sum32 (x y f c : Nat) (hx : x < 4294967296) (hy : y < 4294967296) (hf : f < 4294967296) (hc : c < 4294967296) : IntKind.u64.wrap ((x : Int) * y) = ((x * y : Nat) : Int) ∧ IntKind.u64.wrap ((f : Int) + ((x * y : Nat) : Int)) = ((f + x * y : Nat) : Int) ∧ IntKind.u64.wrap (((f + x * y : Nat) : Int) + (c : Int)) = ((x * y + f + c : Nat) : Int) ∧ (x * y + f + c) / 4294967296 < 4294967296 := by
  have h := Nat.mul_le_mul (show x ≤ 4294967295 by omega) (show y ≤ 4294967295 by omega)
  rw [← Int.natCast_mul]
  generalize x * y = P at *
  refine ⟨wrapu _ (by omega) (by omega), ?_, ?_, by omega⟩
  · rw [← Int.natCast_add]; exact wrapu _ (by omega) (by omega)
  · rw [← Int.natCast_add, wrapu _ (by omega) (by omega)]; omega
/-- The digits of a product, and its words up to i in two rows. -/
structure M3 (w W : World) (g h P i k : Nat) : Prop where
  r : W.heap[w.heap.size + 1 + 1]? = some (.cells (wn 0) 23 (0, 0))
  s : W.heap[w.heap.size + 1 + 1 + 1]? = some (.cells (wn 0) 23 (0, 0))
  o : Nd W (w.heap.size + 1 + 1 + 1 + 1) 93 16 (dg 4294967296 P)
  lo : Nd W g 23 4 (wf P i)
  hi : Nd W h 23 4 (wf (P / M) k)
  bel : Below w.heap.size w W
  hg : w.heap.size + 1 + 1 + 1 + 1 < g
  hh : g < h
section
variable {w W : World} {g h P i k : Nat}
theorem M3.low (j : M3 w W g h P i k) : M3 w (W.setCell ⟨g, i, none⟩ (.int .u64 ((wd P i : Nat) : Int))) g h P (i + 1) k := by
  have := j.hg
  have := j.hh
  exact ⟨(Below.heap_setCell _ _ _ _ (by simp; omega)).trans j.r, (Below.heap_setCell _ _ _ _ (by simp; omega)).trans j.s, j.o.other (by omega) _ _, (j.lo.set i _).congr (fun q _ => wf_step P i q), j.hi.other (by omega) _ _, j.bel.setCell (by simp; omega) _, j.hg, j.hh⟩
theorem M3.high (j : M3 w W g h P i k) : M3 w (W.setCell ⟨h, k, none⟩ (.int .u64 ((wd (P / M) k : Nat) : Int))) g h P i (k + 1) := by
  have := j.hg
  have := j.hh
  exact ⟨(Below.heap_setCell _ _ _ _ (by simp; omega)).trans j.r, (Below.heap_setCell _ _ _ _ (by simp; omega)).trans j.s, j.o.other (by omega) _ _, j.lo.other (by omega) _ _, (j.hi.set k _).congr (fun q _ => wf_step (P / M) k q), j.bel.setCell (by simp; omega) _, j.hg, j.hh⟩
theorem M3.row1 (j : M3 w W g h P 0 k) : M3 w (W.setRow g (wn 0)) g h P 0 k := by
  have := j.hg
  have := j.hh
  exact ⟨(setRow_other _ _ _ _ (by omega)).trans j.r, (setRow_other _ _ _ _ (by omega)).trans j.s, j.o.row (by omega) _, (Nd.of_heap (f := wd 0) (setRow_heap _ _ _ _ _ _ j.lo.heap)).congr (fun q _ => wf_zero _ q), j.hi.row (by omega) _, below_setRow j.bel (by omega) _, j.hg, j.hh⟩
theorem M3.row2 (j : M3 w W g h P i 0) : M3 w (W.setRow h (wn 0)) g h P i 0 := by
  have := j.hg
  have := j.hh
  exact ⟨(setRow_other _ _ _ _ (by omega)).trans j.r, (setRow_other _ _ _ _ (by omega)).trans j.s, j.o.row (by omega) _, j.lo.row (by omega) _, (Nd.of_heap (f := wd 0) (setRow_heap _ _ _ _ _ _ j.hi.heap)).congr (fun q _ => wf_zero _ q), below_setRow j.bel (by omega) _, j.hg, j.hh⟩
theorem M3.two (j : M3 w W g h P i k) (c d : Array Value) : ((W.setRow (w.heap.size + 1 + 1) c).setRow (w.heap.size + 1 + 1 + 1) d).heap[w.heap.size + 1 + 1]? = some (.cells c 23 (0, 0)) ∧ ((W.setRow (w.heap.size + 1 + 1) c).setRow (w.heap.size + 1 + 1 + 1) d).heap[w.heap.size + 1 + 1 + 1]? = some (.cells d 23 (0, 0)) ∧ Below w.heap.size w ((W.setRow (w.heap.size + 1 + 1) c).setRow (w.heap.size + 1 + 1 + 1) d) := by
  refine ⟨(setRow_other _ _ _ _ (by omega)).trans (setRow_heap _ _ _ _ _ _ j.r), setRow_heap _ _ _ _ _ _ ((setRow_other _ _ _ _ (by omega)).trans j.s), below_setRow (below_setRow j.bel (by omega) _) (by omega) _⟩
theorem M3.drew (j : M3 w W g h P i k) : M3 w W.drew g h P i k := ⟨j.r, j.s, j.o, j.lo, j.hi, j.bel.drew, j.hg, j.hh⟩
end
theorem high32 (P i : Nat) : dg 4294967296 P (8 + 2 * i) + dg 4294967296 P (9 + 2 * i) * 4294967296 = wd (P / M) i := by
  rw [show 8 + 2 * i = 2 * (i + 4) by omega, show 9 + 2 * i = 2 * (i + 4) + 1 by omega, wd32, M_eq]
  exact dg_up _ P i 4
theorem join32 (a b : Nat) (ha : a < 4294967296) (hb : b < 4294967296) : IntKind.u64.wrap ((a : Int) + IntKind.u64.wrap ((b : Int) * 4294967296)) = ((a + b * 4294967296 : Nat) : Int) := by
  rw [wrapu ((b : Int) * 4294967296) (by omega) (by omega), wrapu _ (by omega) (by omega)]
  omega
attribute [local go_sem ↓] ldR_eq svR_eq
section
set_option maxRecDepth 10000
set_option maxHeartbeats 4000000
theorem rmul_any (m n : Nat) (hm : m < M) (hn : n < M) (w : World) : Calls Try.prog 43 #[.agg (wn m), .agg (wn n)] w fun e w' => e = .returned (.tuple #[.agg (wn (m * n)), .agg (wn (m * n / M))]) ∧ Below w.heap.size w w' := by
  have J0 := hide (Mu.start w 23 93 16 m n (fun _ => 0))
  have O0 := hide (Ou.start (B := 4294967296) (N := 8) (m := m) (n := n) (by decide))
  have HM := hide (And.intro hm hn)
  clear hm hn
  go_enter Try.func43, Try.ntmps43
  go_wp2_with (first | refine wpList_boxA rfl _ rfl (wn m) rfl ?_ | refine wpList_boxA rfl _ rfl (wn n) rfl ?_ | refine wpList_allocA AR rfl rfl ?_ | refine wpList_allocA A16 rfl rfl ?_ | refine wpList_buildA A16 rfl rfl ?_ | refine wpList_store_newA A16 rfl _ _ rfl _ rfl (nc 16 (fun _ => 0)) (nc_size 16 _) (nc_one 16 _) rfl rfl ?_)
  generalize ((((w.alloc (.cells (wn m) 23)).alloc (.cells (wn n) 23)).alloc (.cells (wn 0) 23)).alloc (.cells (wn 0) 23)).alloc (.cells (nc 16 (fun _ => 0)) 93) = W0 at *
  go_loopw [7, 8, 9, 10, 11, 12] (fun c _ _ _ _ _ wr => ∃ (i : Nat) (f : Nat → Nat), i ≤ 8 ∧ c = .int .i64 i ∧ Hid (Mu w wr 23 93 16 m n f) ∧ Hid (Ou 4294967296 i 8 m n f)) (fun c _ _ _ _ _ _ => (8 - intOf c).toNat)
  case atStart => exact ⟨0, _, by omega, rfl, J0, O0⟩
  case round =>
    clear J0 O0
    obtain ⟨i, g, hi, rfl, J, O⟩ := hrel
    by_cases hlt : i < 8
    · have hi4 : (i : Int) < 8 := by omega
      have hi0 : (0 : Int) ≤ i := by omega
      have q1 : (i : Int) / 2 = ((i / 2 : Nat) : Int) := by omega
      have q2 : (i : Int) % 2 = ((i % 2 : Nat) : Int) := by omega
      have q3 : ((i / 2 : Nat) : Int) < 4 := by omega
      have q4 : (0 : Int) ≤ ((i / 2 : Nat) : Int) := by omega
      have q5 : IntKind.i64.wrap (32 * ((i % 2 : Nat) : Int)) = ((32 * (i % 2) : Nat) : Int) := by rw [wrapI _ (by omega) (by omega)]; omega
      have q6 : ((32 * (i % 2) : Nat) : Int) ≤ 64 := by omega
      have q7 : (0 : Int) ≤ ((32 * (i % 2) : Nat) : Int) := by omega
      have ca := J.out.a.cell (show i / 2 < 4 by omega)
      have hx0 : ((wd m (i / 2) : Nat) : Int) / 2 ^ (32 * (i % 2)) = ((wd m (i / 2) / 2 ^ (32 * (i % 2)) : Nat) : Int) := by simp
      have hx1 : ((wd m (i / 2) / 2 ^ (32 * (i % 2)) : Nat) : Int) % 4294967296 = ((dg 4294967296 m i : Nat) : Int) := by rw [← dg32]; omega
      have hx2 : Int.tmod ((wd m (i / 2) / 2 ^ (32 * (i % 2)) : Nat) : Int) 4294967296 = ((dg 4294967296 m i : Nat) : Int) := by rw [Int.tmod_eq_emod_of_nonneg (Int.natCast_nonneg _)]; exact hx1
      generalize wd m (i / 2) / 2 ^ (32 * (i % 2)) = z at *
      generalize i / 2 = q at *
      generalize 32 * (i % 2) = r at *
      generalize i % 2 = e at *
      have I0 := hide (In.start (B := 4294967296) (i := i) (a := dg 4294967296 m i) (n := n) (by decide) O.out.lt)
      have hX := hide (dg_lt (B := 4294967296) (by decide) m i)
      generalize hx : dg 4294967296 m i = x at *
      have HX := hide hx
      have II := hide (And.intro hi hlt)
      clear hx hi hlt
      go_wp2
      clear q1 q2 q3 q4 q5 q6 q7 hx0 hx1 hx2 ca
      go_loopw [8, 10, 11, 12] (fun c d _ _ wr => ∃ (k cc : Nat) (f : Nat → Nat), k ≤ 8 ∧ c = .int .u64 (cc : Int) ∧ d = .int .i64 k ∧ Hid (Mu w wr 23 93 16 m n f) ∧ Hid (In 4294967296 i k x n cc f g)) (fun _ d _ _ _ => (8 - intOf d).toNat)
      case atStart => exact ⟨0, 0, _, by omega, rfl, rfl, J, I0⟩
      case round =>
        clear J I0
        obtain ⟨k, cc, f, hk, rfl, rfl, J, IN⟩ := hrel
        have hi8 := II.out.2
        by_cases hlk : k < 8
        · have hk4 : (k : Int) < 8 := by omega
          have hk0 : (0 : Int) ≤ k := by omega
          have q1 : (k : Int) / 2 = ((k / 2 : Nat) : Int) := by omega
          have q2 : (k : Int) % 2 = ((k % 2 : Nat) : Int) := by omega
          have q3 : ((k / 2 : Nat) : Int) < 4 := by omega
          have q4 : (0 : Int) ≤ ((k / 2 : Nat) : Int) := by omega
          have q5 : IntKind.i64.wrap (32 * ((k % 2 : Nat) : Int)) = ((32 * (k % 2) : Nat) : Int) := by rw [wrapI _ (by omega) (by omega)]; omega
          have q6 : ((32 * (k % 2) : Nat) : Int) ≤ 64 := by omega
          have q7 : (0 : Int) ≤ ((32 * (k % 2) : Nat) : Int) := by omega
          have ca := J.out.b.cell (show k / 2 < 4 by omega)
          have hx0 : ((wd n (k / 2) : Nat) : Int) / 2 ^ (32 * (k % 2)) = ((wd n (k / 2) / 2 ^ (32 * (k % 2)) : Nat) : Int) := by simp
          have hx1 : ((wd n (k / 2) / 2 ^ (32 * (k % 2)) : Nat) : Int) % 4294967296 = ((dg 4294967296 n k : Nat) : Int) := by rw [← dg32]; omega
          have hx2 : Int.tmod ((wd n (k / 2) / 2 ^ (32 * (k % 2)) : Nat) : Int) 4294967296 = ((dg 4294967296 n k : Nat) : Int) := by rw [Int.tmod_eq_emod_of_nonneg (Int.natCast_nonneg _)]; exact hx1
          generalize wd n (k / 2) / 2 ^ (32 * (k % 2)) = z at *
          generalize k / 2 = q at *
          generalize 32 * (k % 2) = r at *
          generalize k % 2 = e at *
          have hik : IntKind.i64.wrap ((i : Int) + k) = ((i + k : Nat) : Int) := by rw [wrapI _ (by omega) (by omega)]; omega
          have h8 : ((i + k : Nat) : Int) < 16 := by omega
          have h80 : (0 : Int) ≤ ((i + k : Nat) : Int) := by omega
          have hkw : IntKind.i64.wrap ((k : Int) + 1) = k + 1 := wrapI _ (by omega) (by omega)
          obtain ⟨w1, w2, w3, hov⟩ := sum32 x (dg 4294967296 n k) (f (i + k)) cc hX.out (dg_lt (by decide) n k) (IN.out.lt _) IN.out.hc
          have I1 := hide (IN.out.next (x * dg 4294967296 n k + f (i + k) + cc) rfl hov)
          have ho := J.out.o.cell (show i + k < 16 by omega)
          have hf := J.out.o.fz (i + k)
          have KK := hide hlk
          generalize hd : i + k = d at *
          generalize dg 4294967296 n k = y at *
          generalize x * y + f d + cc = S at *
          generalize f d + x * y = S1 at *
          generalize x * y = P at *
          have v1 : (S : Int) % 4294967296 = ((S % 4294967296 : Nat) : Int) := by omega
          have v2 : Int.tmod (S : Int) 4294967296 = ((S % 4294967296 : Nat) : Int) := by rw [Int.tmod_eq_emod_of_nonneg (Int.natCast_nonneg _)]; exact v1
          have v3 : (S : Int) / 4294967296 = ((S / 4294967296 : Nat) : Int) := by omega
          have v4 : IntKind.u64.wrap ((S / 4294967296 : Nat) : Int) = ((S / 4294967296 : Nat) : Int) := wrapu _ (by omega) (by omega)
          generalize S % 4294967296 = l1 at *
          generalize S / 4294967296 = c1 at *
          clear hd hov hlk hk hi8
          go_wp2
          have L4 := KK.out
          exact ⟨⟨k + 1, c1, _, by omega, rfl, by go_num, hide (J.out.set d l1), I1⟩, by simp [intOf]; omega⟩
        · have hke : k = 8 := by omega
          subst hke
          have hOx : In 4294967296 i 8 (dg 4294967296 m i) n cc f g := by rw [HX.out]; exact IN.out
          have O1 := hide (O.out.next (by rw [← M_32]; exact HM.out.2) hOx)
          have ho := J.out.o.cell (show i + 8 < 16 by omega)
          have hf := J.out.o.fz (i + 8)
          have hik : IntKind.i64.wrap ((i : Int) + 8) = ((i + 8 : Nat) : Int) := by rw [wrapI _ (by omega) (by omega)]; omega
          have h8 : ((i + 8 : Nat) : Int) < 16 := by omega
          have h80 : (0 : Int) ≤ ((i + 8 : Nat) : Int) := by omega
          have hkw : IntKind.i64.wrap ((i : Int) + 1) = i + 1 := wrapI _ (by omega) (by omega)
          generalize hd : i + 8 = d at *
          clear hd hi8 hlk hk
          go_wp2
          have L4 := II.out
          exact ⟨⟨i + 1, _, by omega, by go_num, hide (J.out.set d cc), O1⟩, by simp [intOf]; omega⟩
    · have hke : i = 8 := by omega
      subst hke
      have hE : ∀ j, j < 16 → g j = dg 4294967296 (m * n) j := fun j hj => O.out.end (by rw [← M_32]; exact HM.out.1) j hj
      have J1 : Hid (M3 w (((wr.alloc (.cells (wn 0) 23)).alloc (.cells (wn 0) 23))) wr.heap.size (wr.heap.size + 1) (m * n) 0 0) := by
        have b := below2x wr (.cells (wn 0) 23) (.cells (wn 0) 23)
        have hs := J.out.o.lt
        exact ⟨(b.block _ (lt_heap J.out.r)).trans J.out.r, (b.block _ (lt_heap J.out.s)).trans J.out.s, (J.out.o.below b).congr hE, (Nd.of_heap (f := wd 0) (blk2x wr _ _).1).congr (fun q _ => wf_zero _ q), (Nd.of_heap (f := wd 0) (blk2x wr _ _).2).congr (fun q _ => wf_zero _ q), below_next J.out.bel b, hs, by omega⟩
      clear hE J O HM hlt hi
      generalize hP : m * n = P at *
      have HP := hide hP
      clear hP
      have k1 := hide (blk2x wr (.cells (wn 0) 23) (.cells (wn 0) 23)).1
      have k2 : Hid ((((wr.alloc (.cells (wn 0) 23)).alloc (.cells (wn 0) 23)).setRow wr.heap.size (wn 0)).heap[(wr.alloc (.cells (wn 0) 23)).heap.size]? = some (.cells (wn 0) 23 (0, 0))) := by
        unfold Hid
        rw [show (wr.alloc (.cells (wn 0) 23)).heap.size = wr.heap.size + 1 by simp]
        exact (setRow_other _ _ _ _ (by omega)).trans (blk2x wr _ _).2
      go_upto_region 16 with (first | refine wpList_allocA AR rfl rfl ?_ | refine wpList_buildA AR rfl rfl ?_ | refine wpList_storeA AR rfl _ _ rfl _ (wn 0) (wn_size _) (wn_one _) rfl rfl (wn 0) (wn_size _) 23 k1.out ?_ | refine wpList_storeA AR rfl _ _ rfl _ (wn 0) (wn_size _) (wn_one _) rfl rfl (wn 0) (wn_size _) 23 k2.out ?_)
      have hsz : (wr.alloc (.cells (wn 0) 23)).heap.size = wr.heap.size + 1 := by simp
      try rw [hsz]
      have J2 := hide J1.out.row1.row2
      generalize (((wr.alloc (.cells (wn 0) 23)).alloc (.cells (wn 0) 23)).setRow wr.heap.size (wn 0)).setRow (wr.heap.size + 1) (wn 0) = W2 at *
      generalize wr.heap.size = g1 at *
      clear J1 k1 k2 hsz
      go_wp2
      go_loopw [15] (fun d wz => ∃ i : Nat, i ≤ 4 ∧ d = .int .i64 i ∧ Hid (M3 w wz g1 (g1 + 1) P i i)) (fun d _ => (4 - intOf d).toNat)
      case atStart => exact ⟨0, by omega, rfl, J2⟩
      case round =>
        clear J2
        obtain ⟨i, hi, rfl, J⟩ := hrel
        by_cases hlt : i < 4
        · have hi4 : (i : Int) < 4 := by omega
          have i0 : (0 : Int) ≤ i := by omega
          have q1 : IntKind.i64.wrap (2 * (i : Int)) = ((2 * i : Nat) : Int) := by rw [wrapI _ (by omega) (by omega)]; omega
          have q2 : IntKind.i64.wrap (((2 * i : Nat) : Int) + 1) = ((2 * i + 1 : Nat) : Int) := by rw [wrapI _ (by omega) (by omega)]; omega
          have q3 : IntKind.i64.wrap (8 + ((2 * i : Nat) : Int)) = ((8 + 2 * i : Nat) : Int) := by rw [wrapI _ (by omega) (by omega)]; omega
          have q4 : IntKind.i64.wrap (9 + ((2 * i : Nat) : Int)) = ((9 + 2 * i : Nat) : Int) := by rw [wrapI _ (by omega) (by omega)]; omega
          have a1 : ((2 * i : Nat) : Int) < 16 := by omega
          have a2 : ((2 * i + 1 : Nat) : Int) < 16 := by omega
          have a3 : ((8 + 2 * i : Nat) : Int) < 16 := by omega
          have a4 : ((9 + 2 * i : Nat) : Int) < 16 := by omega
          have z1 : (0 : Int) ≤ ((2 * i : Nat) : Int) := by omega
          have z2 : (0 : Int) ≤ ((2 * i + 1 : Nat) : Int) := by omega
          have z3 : (0 : Int) ≤ ((8 + 2 * i : Nat) : Int) := by omega
          have z4 : (0 : Int) ≤ ((9 + 2 * i : Nat) : Int) := by omega
          have c1 := J.out.o.cell (show 2 * i < 16 by omega)
          have c2 := J.out.o.cell (show 2 * i + 1 < 16 by omega)
          have f1 := J.out.lo.fz i
          have l1 := J.out.lo.cell hlt
          have s2 := join32 (dg 4294967296 P (2 * i)) (dg 4294967296 P (2 * i + 1)) (dg_lt (by decide) _ _) (dg_lt (by decide) _ _)
          rw [wd32] at s2
          have s4 := join32 (dg 4294967296 P (8 + 2 * i)) (dg 4294967296 P (9 + 2 * i)) (dg_lt (by decide) _ _) (dg_lt (by decide) _ _)
          rw [high32] at s4
          have CA : Hid (∀ W, M3 w W g1 (g1 + 1) P (i + 1) i → W.cell? ⟨w.heap.size + 1 + 1 + 1 + 1, 8 + 2 * i, none⟩ = some (.int .u64 ((dg 4294967296 P (8 + 2 * i) : Nat) : Int)) ∧ W.cell? ⟨w.heap.size + 1 + 1 + 1 + 1, 9 + 2 * i, none⟩ = some (.int .u64 ((dg 4294967296 P (9 + 2 * i) : Nat) : Int)) ∧ W.frozen? ⟨g1 + 1, i, none⟩ = false ∧ W.cell? ⟨g1 + 1, i, none⟩ = some (.int .u64 ((wf (P / M) i i : Nat) : Int))) := fun W j => ⟨j.o.cell (by omega), j.o.cell (by omega), j.hi.fz i, j.hi.cell hlt⟩
          have hiw : IntKind.i64.wrap ((i : Int) + 1) = i + 1 := wrapI _ (by omega) (by omega)
          have LL := hide hlt
          generalize hw1 : wd P i = v1 at *
          generalize hw2 : wd (P / M) i = v2 at *
          have HW := hide (And.intro hw1 hw2)
          clear hlt hi hw1 hw2
          generalize dg 4294967296 P (2 * i) = x1 at *
          generalize dg 4294967296 P (2 * i + 1) = x2 at *
          generalize dg 4294967296 P (8 + 2 * i) = x3 at *
          generalize dg 4294967296 P (9 + 2 * i) = x4 at *
          generalize 2 * i + 1 = k2 at *
          generalize 8 + 2 * i = k3 at *
          generalize 9 + 2 * i = k4 at *
          generalize 2 * i = k1 at *
          go_upto_region 19 with fail
          go_region
          have J1 : Hid (M3 w (wr.setCell ⟨g1, i, none⟩ (.int .u64 (v1 : Int))).drew g1 (g1 + 1) P (i + 1) i) := by
            rw [← HW.out.1]
            exact J.out.low.drew
          generalize (wr.setCell ⟨g1, i, none⟩ (.int .u64 (v1 : Int))).drew = W1 at *
          obtain ⟨d3, d4, f2, l2⟩ := CA.out W1 J1.out
          clear J c1 c2 f1 l1 CA s2
          go_upto_region 20 with fail
          go_region
          go_wp2
          have L4 := LL.out
          refine ⟨⟨i + 1, by omega, by go_num, ?_⟩, by simp [intOf]; omega⟩
          rw [← HW.out.2]
          exact J1.out.high.drew
        · have hke : i = 4 := by omega
          subst hke
          have H1 := hide (J.out.lo.congr (wf_four P)).heap
          have H2 := hide (J.out.hi.congr (wf_four (P / M))).heap
          have hg := J.out.hg
          have l1 := ldR_row (W := wr.drew) H1.out
          have l2 := ldR_row (W := wr.drew) H2.out
          have s1 := svR_row (w := wr.drew) J.out.r P
          have l3 := ldR_row (W := wr.drew.setRow (w.heap.size + 1 + 1) (wn P)) (g := g1 + 1) ((setRow_other _ _ _ _ (by omega)).trans H2.out)
          have s2 := svR_row (w := wr.drew.setRow (w.heap.size + 1 + 1) (wn P)) ((setRow_other _ _ _ _ (by omega)).trans J.out.s) (P / M)
          have T := hide (J.out.drew.two (wn P) (wn (P / M)))
          clear hg hi
          generalize hH : P / M = H at *
          have HH := hide hH
          clear hH
          go_upto_region 21 with fail
          go_region
          go_wp2
          exact bodyPost_ret (v := .tuple #[.agg (wn P), .agg (wn H)]) (resAA AR Try.results43 _ _ (w.heap.size + 1 + 1) (w.heap.size + 1 + 1 + 1) 23 (wn P) (wn H) (wn_size _) (wn_size _) rfl T.out.1 rfl T.out.2.1) rfl ⟨by rw [HP.out, HH.out], T.out.2.2⟩
end
end Go.Proofs.Ytmfpnlnhebjelaa
