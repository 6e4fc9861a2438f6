/- Numbers of 40 bytes: their cells; the contracts of the document's Less and Zero. The contract of wide.Div, in full. The contracts of wide.mulAdd and wide.Mul. -/
import Derived.Test.YthhojpplbhnnfaaGreatDoorX19
import Derived.Test.YthhojpplbhnnfaaGreatDoorX16
namespace Go.Proofs.YthhojpplbhnnfaaGreatDoor
open Go.RowKit
open Go.Deep
/-- Ints as cells. -/
def ic (k : Nat) (f : Nat → Nat) : Array Value := ((List.range k).map fun i => Value.int .i64 ((f i : Nat) : Int)).toArray
theorem ic_size (k : Nat) (f : Nat → Nat) : (ic k f).size = k := by simp [ic]
theorem ic_one (k : Nat) (f : Nat → Nat) : (ic k f).all (·.oneCell') = true := by
  rw [Array.all_eq_true_iff_forall_mem]
  intro v hv
  simp only [ic, List.mem_toArray, List.mem_map] at hv
  obtain ⟨b, _, rfl⟩ := hv
  rfl
theorem ic_at (k : Nat) (f : Nat → Nat) (i : Nat) (hi : i < k) : (ic k f)[i]? = some (.int .i64 ((f i : Nat) : Int)) := by
  simp [ic, hi]
theorem ic_congr {k : Nat} {f g : Nat → Nat} (h : ∀ i, i < k → f i = g i) : ic k f = ic k g := by
  unfold ic
  congr 1
  apply List.map_congr_left
  intro i hi
  rw [h i (by simpa using hi)]
/-- Ints at block g. -/
def Ni (W : World) (g : Nat) (t : TypeId) (k : Nat) (f : Nat → Nat) : Prop := W.rowIs g t k (fun i => .int .i64 ((f i : Nat) : Int))
section
variable {W W' : World} {g : Nat} {t : TypeId} {k : Nat} {f : Nat → Nat}
theorem Ni.heap (h : Ni W g t k f) : W.heap[g]? = some (.cells (ic k f) t (0, 0)) := of_row (ic_size k f) h (fun i hi => ic_at k f i hi)
theorem Ni.of_heap (h : W.heap[g]? = some (.cells (ic k f) t (0, 0))) : Ni W g t k f := row_of (ic_size k f) h (fun i hi => ic_at k f i hi)
theorem Ni.lt (h : Ni W g t k f) : g < W.heap.size := World.rowIs.lt h
theorem Ni.of_block (h : Ni W g t k f) (e : W'.heap[g]? = W.heap[g]?) : Ni W' g t k f := World.rowIs.of_block h e
theorem Ni.fz (h : Ni W g t k f) (i : Nat) : W.frozen? ⟨g, i, none⟩ = false := World.rowIs.frozen h i
theorem Ni.cell (h : Ni W g t k f) {i : Nat} (hi : i < k) : W.cell? ⟨g, i, none⟩ = some (.int .i64 ((f i : Nat) : Int)) := World.rowIs.cell h hi
theorem Ni.set (h : Ni W g t k f) (i x : Nat) : Ni (W.setCell ⟨g, i, none⟩ (.int .i64 ((x : Nat) : Int))) g t k (fun j => if j = i then x else f j) := by
  refine (World.rowIs.set h i _).congr (fun j hj => ?_)
  by_cases e : j = i <;> simp [e]
theorem Ni.congr (h : Ni W g t k f) {f' : Nat → Nat} (e : ∀ i, i < k → f i = f' i) : Ni W g t k f' := World.rowIs.congr h (fun i hi => by rw [e i hi])
theorem Ni.other (h : Ni W g t k f) {b : Nat} (hb : b ≠ g) (i : Nat) (v : Value) : Ni (W.setCell ⟨b, i, none⟩ v) g t k f := h.of_block (Below.heap_setCell _ _ _ _ (Ne.symm hb))
theorem Ni.row (h : Ni W g t k f) {b : Nat} (hb : b ≠ g) (c : Array Value) : Ni (W.setRow b c) g t k f := h.of_block (setRow_other W b g c (Ne.symm hb))
theorem Ni.below (h : Ni W g t k f) (b : Below W.heap.size W W') : Ni W' g t k f := h.of_block (b.block _ h.lt)
theorem Ni.drew (h : Ni W g t k f) : Ni W.drew g t k f := h
end
/-- The cells of a number of 40 bytes. -/
def bn (n : Nat) : Array Value := ic 40 (dg 256 n)
theorem bn_size (n : Nat) : (bn n).size = 40 := ic_size 40 _
theorem bn_one (n : Nat) : (bn n).all (·.oneCell') = true := ic_one 40 _
def MB : Nat := 256 ^ 40
theorem MB_pos : 0 < MB := by decide +kernel
theorem M_MB : M < MB := by decide +kernel
theorem bn_mod (n : Nat) : bn (n % MB) = bn n := ic_congr fun i hi => dg_mod 256 n 40 i hi
theorem AN : Arr 148 40 (bn 0) := ⟨.inl ⟨_, _, Tryz.underlying148⟩, by kernel_rfl, fun w => by kernel_rfl, fun w => by kernel_rfl, bn_size 0⟩
theorem size3 (w : World) : (sizeOf 3).run Tryz.prog w = .ok 1 w := by kernel_rfl
theorem eqgN : Tryz.prog.eqGuardType Tryz.prog.depth 148 = false := by kernel_rfl
set_option maxRecDepth 20000 in
theorem eq_ic (t : TypeId) (k : Nat) (ht : Tryz.prog.underlying t = some (.array k 3)) (f g : Nat → Nat) (w : World) : (Op.equalIn 10000 t (.agg (ic k f)) (.agg (ic k g))).run Tryz.prog w = .ok ((List.range k).all fun i => f i == g i) w := by
  rw [List.range_eq_range', Op.equalIn]
  simp only [Sem.run_bind, run_underlying ht, Result.andThen_ok, size3, Std.Legacy.Range.forIn_eq_forIn_range', Std.Legacy.Range.size, Nat.sub_zero, Nat.add_sub_cancel, Nat.div_one]
  have hr : ∀ i ∈ List.range' 0 k 1, i < k := fun i hi => by simpa using (List.mem_range'_1.1 hi).2
  generalize List.range' 0 k 1 = r at hr ⊢
  induction r with
  | nil => simp
  | cons i r ih =>
    have hi : i < k := hr i (by simp)
    have hp : ∀ h : Nat → Nat, (Go.part 3 (ic k h) (i * 1)).run Tryz.prog w = .ok (.int .i64 ((h i : Nat) : Int)) w := fun h => by
      simp [Go.part, isAgg, run_underlying Tryz.underlying3, ic_at k h i hi]
    have he : (Op.equalIn 9999 3 (.int .i64 ((f i : Nat) : Int)) (.int .i64 ((g i : Nat) : Int))).run Tryz.prog w = .ok (f i == g i) w := by
      rw [run_equalIn_int w 9998 3 .i64 .i64 _ _ Tryz.underlying3]
      congr 1
      rw [Bool.eq_iff_iff]
      simp
      omega
    simp only [List.forIn_cons, Sem.run_bind, hp, he, Result.andThen_ok, List.all_cons]
    cases hb : (f i == g i)
    · simp
    · simp only [Bool.not_true, Bool.false_eq_true, if_false, Sem.run_pure, Result.andThen_ok, Bool.true_and]
      exact ih fun j hj => hr j (by simp [hj])
theorem eqN (m n : Nat) (hm : m < MB) (hn : n < MB) (w : World) : (Op.equalIn 10000 148 (.agg (bn m)) (.agg (bn n))).run Tryz.prog w = .ok (decide (m = n)) w := by
  have e : ((List.range 40).all fun i => dg 256 m i == dg 256 n i) = decide (m = n) := by
    rw [Bool.eq_iff_iff]
    simp only [List.all_eq_true, List.mem_range, beq_iff_eq, decide_eq_true_eq]
    exact ⟨fun h => dg_ext hm hn h, fun h i _ => by rw [h]⟩
  rw [← e]
  exact eq_ic _ 40 Tryz.underlying148 _ _ w
/-- Numbers held against each other, byte by byte. -/
theorem div_byte_step (B m i : Nat) : m / B ^ i = B * (m / B ^ (i + 1)) + dg B m i := by
  unfold dg
  rw [Nat.pow_succ, ← Nat.div_div_eq_div_mul]
  exact (Nat.div_add_mod _ _).symm
theorem byte_eq {B m n i : Nat} (h : m / B ^ (i + 1) = n / B ^ (i + 1)) (e : dg B m i = dg B n i) : m / B ^ i = n / B ^ i := by
  rw [div_byte_step, div_byte_step B n, h, e]
theorem byte_lt {B m n i : Nat} (h : m / B ^ (i + 1) = n / B ^ (i + 1)) (e : dg B m i < dg B n i) : m < n := by
  have h1 := div_byte_step B m i
  have h2 := div_byte_step B n i
  rw [h] at h1
  rcases Nat.lt_or_ge m n with h' | h'
  · exact h'
  · have := Nat.div_le_div_right (c := B ^ i) h'
    omega
section
set_option maxRecDepth 10000
set_option maxHeartbeats 2000000
theorem zeroN_any (m : Nat) (hm : m < MB) (w : World) : Calls Tryz.prog 179 #[.agg (bn m)] w fun e w' => e = .returned (.bool (decide (m = 0))) ∧ Below w.heap.size w w' := by
  have HE := hide fun W => eqN m 0 hm MB_pos W
  have H1 := hide (heap_alloc_last w (.cells (bn m) 148))
  generalize decide (m = 0) = v at *
  go_enter Tryz.func179, Tryz.ntmps179
  go_wp2_with (first | refine wpList_boxA rfl _ rfl (bn m) rfl ?_ | refine wpList_loadA AN rfl _ rfl _ rfl (bn m) (bn_size _) 148 H1.out ?_ | refine wpList_buildA AN rfl rfl ?_ | refine wpList_eql 148 _ _ _ rfl (bn m) (bn 0) rfl rfl rfl eqgN v HE.out ?_)
  go_ret
  exact ⟨rfl, (Below.refl _ _).alloc (Nat.le_refl _) _⟩
theorem less_any (m n : Nat) (hm : m < MB) (hn : n < MB) (w : World) : Calls Tryz.prog 136 #[.agg (bn m), .agg (bn n)] w fun e w' => e = .returned (.bool (decide (m < n))) ∧ Below w.heap.size w w' := by
  obtain ⟨e1, e2⟩ := blk2x w (.cells (bn m) 148) (.cells (bn n) 148)
  have J0 : Hid (Ni ((w.alloc (.cells (bn m) 148)).alloc (.cells (bn n) 148)) w.heap.size 148 40 (dg 256 m) ∧ Ni ((w.alloc (.cells (bn m) 148)).alloc (.cells (bn n) 148)) (w.heap.size + 1) 148 40 (dg 256 n) ∧ Below w.heap.size w ((w.alloc (.cells (bn m) 148)).alloc (.cells (bn n) 148))) := ⟨Ni.of_heap e1, Ni.of_heap e2, below2x w _ _⟩
  have H4 : Hid (m / 256 ^ 40 = n / 256 ^ 40) := by
    show m / MB = n / MB
    rw [Nat.div_eq_of_lt hm, Nat.div_eq_of_lt hn]
  clear e1 e2 hm hn
  go_enter Tryz.func136, Tryz.ntmps136
  go_wp2_with (first | refine wpList_boxA rfl _ rfl (bn m) rfl ?_ | refine wpList_boxA rfl _ rfl (bn n) rfl ?_)
  generalize (w.alloc (.cells (bn m) 148)).alloc (.cells (bn n) 148) = W0 at *
  go_loopw [5] (fun d wr => ∃ i : Nat, i ≤ 40 ∧ d = .int .i64 ((i : Int) - 1) ∧ Hid (Ni wr w.heap.size 148 40 (dg 256 m) ∧ Ni wr (w.heap.size + 1) 148 40 (dg 256 n) ∧ Below w.heap.size w wr) ∧ Hid (m / 256 ^ i = n / 256 ^ i)) (fun d _ => (1 + intOf d).toNat)
  case atStart => exact ⟨40, by omega, rfl, J0, H4⟩
  case round =>
    clear J0 H4
    obtain ⟨i, hi, rfl, J, H⟩ := hrel
    rcases i with _ | i
    · have h0 : ¬ (0 : Int) ≤ ((0 : Nat) : Int) - 1 := by omega
      have hz : Hid (decide (m < n) = false) := by
        have := H.out
        simp at this
        unfold Hid
        simp [this]
      go_wp2
      go_ret
      exact ⟨by rw [hz.out]; rfl, J.out.2.2⟩
    · have e1 : ((i + 1 : Nat) : Int) - 1 = i := by omega
      have hi4 : (i : Int) < 40 := by omega
      have b0 : (0 : Int) ≤ i := by omega
      have ca := J.out.1.cell (show i < 40 by omega)
      have cb := J.out.2.1.cell (show i < 40 by omega)
      have hlt4 := hide (show i ≤ 40 by omega)
      rw [e1]
      by_cases h : dg 256 m i = dg 256 n i
      · have H1 := hide (byte_eq H.out h)
        rw [h] at ca
        clear h hi
        generalize hB : ((dg 256 n i : Nat) : Int) = B at *
        clear hB
        have hBB : (B != B) = false := by simp
        go_upto_region 4 with fail
        go_quiet (fail)
        go_wp2
        exact ⟨⟨i, hlt4.out, rfl, ⟨J.out.1, J.out.2.1, below_drewN J.out.2.2 _⟩, H1⟩, by simp [intOf]; omega⟩
      · have hz : Hid (decide (m < n) = decide (((dg 256 m i : Nat) : Int) < ((dg 256 n i : Nat) : Int))) := by
          unfold Hid
          rcases Nat.lt_or_ge (dg 256 m i) (dg 256 n i) with h1 | h1
          · have := byte_lt H.out h1
            simp [this]
            omega
          · have := byte_lt H.out.symm (show dg 256 n i < dg 256 m i by omega)
            rw [show decide (m < n) = false by simp; omega]
            simp
            omega
        have hne : (((dg 256 m i : Nat) : Int) != ((dg 256 n i : Nat) : Int)) = true := by simp; omega
        clear h hi
        generalize ((dg 256 m i : Nat) : Int) = A at *
        generalize ((dg 256 n i : Nat) : Int) = B at *
        go_upto_region 4 with fail
        go_quiet (fail)
        have ca1 : (wr.drewN nq).cell? ⟨w.heap.size, i, none⟩ = some (.int .i64 A) := ca
        have cb1 : (wr.drewN nq).cell? ⟨w.heap.size + 1, i, none⟩ = some (.int .i64 B) := cb
        have B1 := hide (below_drewN J.out.2.2 nq)
        generalize wr.drewN nq = wr1 at *
        clear ca cb J
        go_upto_region 5 with fail
        go_quiet (fail)
        go_wp2
        go_ret
        exact ⟨by rw [hz.out]; rfl, below_drewN B1.out _⟩
end
end Go.Proofs.YthhojpplbhnnfaaGreatDoor
namespace Go.Proofs.YthhojpplbhnnfaaGreatDoor
open Go.RowKit
open Go.Deep
attribute [local go_sem ↓] ldW_eq svW_eq
section
set_option maxRecDepth 10000
set_option maxHeartbeats 2000000
theorem div_zero (m : Nat) (w : World) : Calls Tryz.prog 145 #[.agg (wn m), .agg (wn 0)] w fun e w' => e = .returned (.tuple #[.agg (wn 0), .agg (wn 0), .int .i64 40]) ∧ Below w.heap.size w w' := by
  have J0 := hide (Ad.start w 51 m 0)
  have HZ := hide fun W => zero_any 0 M_pos W
  rw [show decide (0 = 0) = true by decide] at HZ
  go_enter Tryz.func145, Tryz.ntmps145
  go_upto_region 1 with (first | refine wpList_boxA rfl _ rfl (wn m) rfl ?_ | refine wpList_boxA rfl _ rfl (wn 0) rfl ?_ | refine wpList_allocA AW rfl rfl ?_)
  generalize (((w.alloc (.cells (wn m) 51)).alloc (.cells (wn 0) 51)).alloc (.cells (wn 0) 51)).alloc (.cells (wn 0) 51) = W0 at *
  have b0 := hide J0.out.b.heap
  go_wp2_with (first | refine wpList_loadA AW rfl _ rfl _ rfl (wn 0) (wn_size _) 51 b0.out ?_ | (go_at_call 128; refine (HZ.out _).mono ?_; rintro e w1 ⟨rfl, be⟩; have J1 := hide (J0.out.next be); have r1 := hide J1.out.r; clear be) | refine wpList_buildA AW rfl rfl ?_ | refine wpList_storeA AW rfl _ _ rfl _ (wn 0) (wn_size _) (wn_one _) rfl rfl (wn 0) (wn_size 0) 51 r1.out ?_ | refine wpList_storeA AW rfl _ _ rfl _ (wn 0) (wn_size _) (wn_one _) rfl rfl (wn 0) (wn_size 0) 51 ((setRow_other _ _ _ _ (by omega)).trans J1.out.o.heap) ?_)
  exact bodyPost_ret (v := .tuple #[.agg (wn 0), .agg (wn 0), .int .i64 40]) (resAA3 AW Tryz.results145 _ _ (w.heap.size + 1 + 1) (w.heap.size + 1 + 1 + 1) 51 (wn 0) (wn 0) (wn_size _) (wn_size _) rfl (two_rows J1.out _ _).1 rfl (two_rows J1.out _ _).2.1 _ (by rfl)) rfl ⟨rfl, (two_rows J1.out _ _).2.2⟩
theorem div_long (m n : Nat) (hm : m < M) (hn : n < M) (hl : ¬ n < 18446744073709551616) (w : World) : Calls Tryz.prog 145 #[.agg (wn m), .agg (wn n)] w fun e w' => e = .returned (.tuple #[.agg (wn (m / n)), .agg (wn (m % n)), .int .i64 0]) ∧ Below w.heap.size w w' := by
  have J0 := hide (Ad.start w 51 m n)
  have HZ := hide fun W => zero_any n hn W
  rw [show decide (n = 0) = false by simp; omega] at HZ
  have HL := hide fun W => low_no n hn hl W
  have HD := hide fun W => divLong_any m n hm (by omega) hn W
  clear hm hn hl
  generalize m / n = q at *
  generalize m % n = r at *
  go_enter Tryz.func145, Tryz.ntmps145
  go_upto_region 1 with (first | refine wpList_boxA rfl _ rfl (wn m) rfl ?_ | refine wpList_boxA rfl _ rfl (wn n) rfl ?_ | refine wpList_allocA AW rfl rfl ?_)
  generalize (((w.alloc (.cells (wn m) 51)).alloc (.cells (wn n) 51)).alloc (.cells (wn 0) 51)).alloc (.cells (wn 0) 51) = W0 at *
  have b0 := hide J0.out.b.heap
  go_upto_region 7 with (first | refine wpList_loadA AW rfl _ rfl _ rfl (wn n) (wn_size _) 51 b0.out ?_ | refine wpList_loadA AW rfl _ rfl _ rfl (wn n) (wn_size _) 51 b1.out ?_ | (go_at_call 128; refine (HZ.out _).mono ?_; rintro e w1 ⟨rfl, be⟩; have J1 := hide (J0.out.next be); have b1 := hide J1.out.b.heap; clear be) | (go_at_call 189; refine (HL.out _).mono ?_; rintro e w2 ⟨rfl, be⟩; have J2 := hide (J1.out.next be); have a2 := hide J2.out.a.heap; have b2 := hide J2.out.b.heap; clear be))
  clear J0 b0 J1 b1 HZ HL
  go_upto_region 8 with (first | refine wpList_loadA AW rfl _ rfl _ rfl (wn m) (wn_size _) 51 a2.out ?_ | refine wpList_loadA AW rfl _ rfl _ rfl (wn n) (wn_size _) 51 b2.out ?_ | (go_at_call 191; refine (HD.out _).mono ?_; rintro e w3 ⟨rfl, be⟩; have J3 := hide (J2.out.next be); clear be) | refine wpList_allocA AW rfl rfl ?_ | refine wpList_storeA AW rfl _ _ rfl _ (wn q) (wn_size _) (wn_one _) rfl rfl (wn 0) (wn_size _) 51 (blk2x w3 (.cells (wn 0) 51) (.cells (wn 0) 51)).1 ?_ | refine wpList_storeA AW rfl _ _ rfl _ (wn r) (wn_size _) (wn_one _) rfl rfl (wn 0) (wn_size _) 51 (blk2s w3 (.cells (wn 0) 51) (.cells (wn 0) 51) (wn q)) ?_)
  obtain ⟨r3, r4, rb⟩ := blk2w w3 51 (wn 0) (wn q) (wn r)
  have H3 := hide r3
  have H4 := hide r4
  have J4 := hide (J3.out.next rb)
  have hlt := J3.out.ne
  clear r3 r4 rb J2 a2 b2 HD J3
  simp only [Act.put, List.setIfInBounds_toArray, List.set_cons_succ, List.set_cons_zero, hsz]
  generalize (((w3.alloc (.cells (wn 0) 51)).alloc (.cells (wn 0) 51)).setRow w3.heap.size (wn q)).setRow (w3.heap.size + 1) (wn r) = W4 at *
  have l1 := ldW_row (W := W4.drew) H3.out
  have l2 := ldW_row (W := W4.drew) H4.out
  have s1 := svW_row (w := W4.drew) J4.out.r q
  have l3 := ldW_row (W := W4.drew.setRow (w.heap.size + 1 + 1) (wn q)) ((setRow_other _ _ _ _ (by omega)).trans H4.out)
  have s2 := svW_row (w := W4.drew.setRow (w.heap.size + 1 + 1) (wn q)) ((setRow_other _ _ _ _ (by omega)).trans J4.out.o.heap) r
  clear hlt
  go_region
  go_wp2
  exact bodyPost_ret (v := .tuple #[.agg (wn q), .agg (wn r), .int .i64 0]) (resAA3 AW Tryz.results145 _ _ (w.heap.size + 1 + 1) (w.heap.size + 1 + 1 + 1) 51 (wn q) (wn r) (wn_size _) (wn_size _) rfl (two_rows J4.out.drew _ _).1 rfl (two_rows J4.out.drew _ _).2.1 _ (by rfl)) rfl ⟨rfl, (two_rows J4.out.drew _ _).2.2⟩
end
theorem div_any (m n : Nat) (hm : m < M) (h0 : 0 < n) (hn : n < M) (w : World) : Calls Tryz.prog 145 #[.agg (wn m), .agg (wn n)] w fun e w' => e = .returned (.tuple #[.agg (wn (m / n)), .agg (wn (m % n)), .int .i64 0]) ∧ Below w.heap.size w w' := by
  by_cases h : n < 18446744073709551616
  · exact div_word m n hm h0 h w
  · exact div_long m n hm hn h w
end Go.Proofs.YthhojpplbhnnfaaGreatDoor
namespace Go.Proofs.YthhojpplbhnnfaaGreatDoor
open Go.RowKit
open Go.Deep
/-- A word out of a number that is a value. -/
theorem run_indexW (m i : Nat) (h : i < 4) (w : World) : (Instr.index 51 (.agg (wn m)) (.int .i64 (i : Int))).run Tryz.prog w = .ok (.int .u64 ((wd m i : Nat) : Int)) w := by
  have hp : (Go.part 49 (wn m) (i * 1)).run Tryz.prog w = .ok (.int .u64 ((wd m i : Nat) : Int)) w := by
    simp [Go.part, isAgg, run_underlying Tryz.underlying49, wn, nc_at 4 (wd m) i h]
  rw [Nat.mul_one] at hp
  simp [Instr.index, asIntOf, run_underlying Tryz.underlying51, h, hp]
theorem wpList_indexW {w : World} {ops : Array Oper} {rest : List Oper} {o : Oper} {a : Act} {Q : Exit → Act → World → Prop} (hgd : o.guard = none) (x y : Operand) (ho : o.op = .index 51 x y) (m i : Nat) (hx : a.eval x = .agg (wn m)) (hy : a.eval y = .int .i64 (i : Int)) (hi : i < 4)
    (h : wpList Tryz.prog ops Q rest (a.put o.dst (.int .u64 ((wd m i : Nat) : Int))) w) : wpList Tryz.prog ops Q (o :: rest) a w := by
  refine wpList_plain hgd fun K hK => ?_
  unfold Oper.wp execOp
  simp only [ho, hx, hy, run_indexW m i hi w, Sem.run_bind, Result.andThen_ok, Sem.run_pure]
  exact hK _ _ h
theorem mulAdd_arith (x y f s : Nat) (hx : x < 18446744073709551616) (hy : y < 18446744073709551616) (hf : f < 18446744073709551616) (hs : s < 18446744073709551616) : x * y / 18446744073709551616 + (x * y % 18446744073709551616 + f) / 18446744073709551616 + ((x * y % 18446744073709551616 + f) % 18446744073709551616 + s) / 18446744073709551616 = (x * y + f + s) / 18446744073709551616 ∧ ((x * y % 18446744073709551616 + f) % 18446744073709551616 + s) % 18446744073709551616 = (x * y + f + s) % 18446744073709551616 ∧ (x * y + f + s) / 18446744073709551616 < 18446744073709551616 := by
  have h := Nat.mul_le_mul (show x ≤ 18446744073709551615 by omega) (show y ≤ 18446744073709551615 by omega)
  generalize x * y = P at *
  refine ⟨by omega, by omega, by omega⟩
section
set_option maxRecDepth 10000
set_option maxHeartbeats 2000000
theorem mulAdd_any (x y f s : Nat) (hx : x < 18446744073709551616) (hy : y < 18446744073709551616) (hf : f < 18446744073709551616) (hs : s < 18446744073709551616) (w : World) : Calls Tryz.prog 240 #[.int .u64 (x : Int), .int .u64 (y : Int), .int .u64 (f : Int), .int .u64 (s : Int)] w fun e w' => e = .returned (.tuple #[.int .u64 (((x * y + f + s) / 18446744073709551616 : Nat) : Int), .int .u64 (((x * y + f + s) % 18446744073709551616 : Nat) : Int)]) ∧ w' = w := by
  have HM := hide fun W => mul64_any x y hx hy W
  obtain ⟨e1, e2, e3⟩ := mulAdd_arith x y f s hx hy hf hs
  have A1 := fun W => add64_run (x * y % 18446744073709551616) f 0 (by omega) W
  have A2 := fun W => add64_run ((x * y % 18446744073709551616 + f) % 18446744073709551616) s 0 (by omega) W
  rw [Nat.add_zero] at A1 A2
  rw [e2] at A2
  have hw1 : IntKind.u64.wrap (((x * y / 18446744073709551616 : Nat) : Int) + (((x * y % 18446744073709551616 + f) / 18446744073709551616 : Nat) : Int)) = ((x * y / 18446744073709551616 + (x * y % 18446744073709551616 + f) / 18446744073709551616 : Nat) : Int) := by
    rw [← Int.natCast_add]
    generalize x * y = P at *
    exact wrapu _ (by omega) (by omega)
  have hw2 : IntKind.u64.wrap (((x * y / 18446744073709551616 + (x * y % 18446744073709551616 + f) / 18446744073709551616 : Nat) : Int) + ((((x * y % 18446744073709551616 + f) % 18446744073709551616 + s) / 18446744073709551616 : Nat) : Int)) = (((x * y + f + s) / 18446744073709551616 : Nat) : Int) := by
    rw [← Int.natCast_add, e1]
    generalize (x * y + f + s) / 18446744073709551616 = P at *
    exact wrapu _ (by omega) (by omega)
  clear e1 e2 e3
  obtain ⟨h0, h0e⟩ : ∃ k, k = x * y / 18446744073709551616 := ⟨_, rfl⟩
  obtain ⟨c2, c2e⟩ : ∃ k, k = ((x * y % 18446744073709551616 + f) % 18446744073709551616 + s) / 18446744073709551616 := ⟨_, rfl⟩
  obtain ⟨l1, l1e⟩ : ∃ k, k = (x * y % 18446744073709551616 + f) % 18446744073709551616 := ⟨_, rfl⟩
  obtain ⟨c1, c1e⟩ : ∃ k, k = (x * y % 18446744073709551616 + f) / 18446744073709551616 := ⟨_, rfl⟩
  obtain ⟨l0, l0e⟩ : ∃ k, k = x * y % 18446744073709551616 := ⟨_, rfl⟩
  obtain ⟨h2, h2e⟩ : ∃ k, k = (x * y + f + s) / 18446744073709551616 := ⟨_, rfl⟩
  obtain ⟨l2, l2e⟩ : ∃ k, k = (x * y + f + s) % 18446744073709551616 := ⟨_, rfl⟩
  rw [← h0e, ← l0e] at HM
  rw [← c1e, ← l1e, ← l0e] at A1
  rw [← l2e, ← c2e, ← l1e] at A2
  rw [← h0e, ← c1e] at hw1
  rw [← h0e, ← c1e, ← c2e, ← h2e] at hw2
  rw [← h2e, ← l2e]
  obtain ⟨h1, h1e⟩ : ∃ k, k = h0 + c1 := ⟨_, rfl⟩
  rw [← h1e] at hw1 hw2
  have B1 : ∀ W, (callFunc 154 #[.int .u64 (l0 : Int), .int .u64 (f : Int), .int .u64 0]).run Tryz.prog W = .ok (.value (.tuple #[.int .u64 (l1 : Int), .int .u64 (c1 : Int)])) W := A1
  have B2 : ∀ W, (callFunc 154 #[.int .u64 (l1 : Int), .int .u64 (s : Int), .int .u64 0]).run Tryz.prog W = .ok (.value (.tuple #[.int .u64 (l2 : Int), .int .u64 (c2 : Int)])) W := A2
  clear A1 A2 h0e c2e l1e c1e l0e h2e l2e h1e hx hy hf hs
  go_enter Tryz.func240, Tryz.ntmps240
  go_wp2_with (first | (go_at_call 251; refine (HM.out _).mono ?_; rintro e w3 ⟨rfl, hw3⟩; subst w3))
  go_ret2
  exact ⟨rfl, rfl⟩
end
end Go.Proofs.YthhojpplbhnnfaaGreatDoor
