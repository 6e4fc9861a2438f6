/- Numbers of 40 bytes: their cells; the contracts of the document's Less and Zero. -/
import Derived.Test.YtmfpnlnhebjelaaZr
namespace Go.Proofs.Ytmfpnlnhebjelaa
open Go.RowKit
open Go.Deep
/-- Ints as cells. -/
def ic (k : Nat) (f : Nat → Nat) : Array Value := ((List.range k).map fun i => Value.int .i64 ((f i : Nat) : Int)).toArray
theorem ic_size (k : Nat) (f : Nat → Nat) : (ic k f).size = k := by simp [ic]
theorem ic_one (k : Nat) (f : Nat → Nat) : (ic k f).all (·.oneCell') = true := by
  rw [Array.all_eq_true_iff_forall_mem]
  intro v hv
  simp only [ic, List.mem_toArray, List.mem_map] at hv
  obtain ⟨b, _, rfl⟩ := hv
  rfl
theorem ic_at (k : Nat) (f : Nat → Nat) (i : Nat) (hi : i < k) : (ic k f)[i]? = some (.int .i64 ((f i : Nat) : Int)) := by
  simp [ic, hi]
theorem ic_congr {k : Nat} {f g : Nat → Nat} (h : ∀ i, i < k → f i = g i) : ic k f = ic k g := by
  unfold ic
  congr 1
  apply List.map_congr_left
  intro i hi
  rw [h i (by simpa using hi)]
/-- Ints at block g. -/
def Ni (W : World) (g : Nat) (t : TypeId) (k : Nat) (f : Nat → Nat) : Prop := W.rowIs g t k (fun i => .int .i64 ((f i : Nat) : Int))
section
variable {W W' : World} {g : Nat} {t : TypeId} {k : Nat} {f : Nat → Nat}
theorem Ni.heap (h : Ni W g t k f) : W.heap[g]? = some (.cells (ic k f) t (0, 0)) := of_row (ic_size k f) h (fun i hi => ic_at k f i hi)
theorem Ni.of_heap (h : W.heap[g]? = some (.cells (ic k f) t (0, 0))) : Ni W g t k f := row_of (ic_size k f) h (fun i hi => ic_at k f i hi)
theorem Ni.lt (h : Ni W g t k f) : g < W.heap.size := World.rowIs.lt h
theorem Ni.of_block (h : Ni W g t k f) (e : W'.heap[g]? = W.heap[g]?) : Ni W' g t k f := World.rowIs.of_block h e
theorem Ni.fz (h : Ni W g t k f) (i : Nat) : W.frozen? ⟨g, i, none⟩ = false := World.rowIs.frozen h i
theorem Ni.cell (h : Ni W g t k f) {i : Nat} (hi : i < k) : W.cell? ⟨g, i, none⟩ = some (.int .i64 ((f i : Nat) : Int)) := World.rowIs.cell h hi
theorem Ni.set (h : Ni W g t k f) (i x : Nat) : Ni (W.setCell ⟨g, i, none⟩ (.int .i64 ((x : Nat) : Int))) g t k (fun j => if j = i then x else f j) := by
  refine (World.rowIs.set h i _).congr (fun j hj => ?_)
  by_cases e : j = i <;> simp [e]
theorem Ni.congr (h : Ni W g t k f) {f' : Nat → Nat} (e : ∀ i, i < k → f i = f' i) : Ni W g t k f' := World.rowIs.congr h (fun i hi => by rw [e i hi])
theorem Ni.other (h : Ni W g t k f) {b : Nat} (hb : b ≠ g) (i : Nat) (v : Value) : Ni (W.setCell ⟨b, i, none⟩ v) g t k f := h.of_block (Below.heap_setCell _ _ _ _ (Ne.symm hb))
theorem Ni.row (h : Ni W g t k f) {b : Nat} (hb : b ≠ g) (c : Array Value) : Ni (W.setRow b c) g t k f := h.of_block (setRow_other W b g c (Ne.symm hb))
theorem Ni.below (h : Ni W g t k f) (b : Below W.heap.size W W') : Ni W' g t k f := h.of_block (b.block _ h.lt)
theorem Ni.drew (h : Ni W g t k f) : Ni W.drew g t k f := h
end
/-- The cells of a number of 40 bytes. -/
def bn (n : Nat) : Array Value := ic 40 (dg 256 n)
theorem bn_size (n : Nat) : (bn n).size = 40 := ic_size 40 _
theorem bn_one (n : Nat) : (bn n).all (·.oneCell') = true := ic_one 40 _
def MB : Nat := 256 ^ 40
theorem MB_pos : 0 < MB := by decide +kernel
theorem M_MB : M < MB := by decide +kernel
theorem bn_mod (n : Nat) : bn (n % MB) = bn n := ic_congr fun i hi => dg_mod 256 n 40 i hi
theorem AN : Arr 46 40 (bn 0) := ⟨.inl ⟨_, _, Try.underlying46⟩, by kernel_rfl, fun w => by kernel_rfl, fun w => by kernel_rfl, bn_size 0⟩
theorem size3 (w : World) : (sizeOf 3).run Try.prog w = .ok 1 w := by kernel_rfl
theorem eqgN : Try.prog.eqGuardType Try.prog.depth 46 = false := by kernel_rfl
set_option maxRecDepth 20000 in
theorem eq_ic (t : TypeId) (k : Nat) (ht : Try.prog.underlying t = some (.array k 3)) (f g : Nat → Nat) (w : World) : (Op.equalIn 10000 t (.agg (ic k f)) (.agg (ic k g))).run Try.prog w = .ok ((List.range k).all fun i => f i == g i) w := by
  rw [List.range_eq_range', Op.equalIn]
  simp only [Sem.run_bind, run_underlying ht, Result.andThen_ok, size3, Std.Legacy.Range.forIn_eq_forIn_range', Std.Legacy.Range.size, Nat.sub_zero, Nat.add_sub_cancel, Nat.div_one]
  have hr : ∀ i ∈ List.range' 0 k 1, i < k := fun i hi => by simpa using (List.mem_range'_1.1 hi).2
  generalize List.range' 0 k 1 = r at hr ⊢
  induction r with
  | nil => simp
  | cons i r ih =>
    have hi : i < k := hr i (by simp)
    have hp : ∀ h : Nat → Nat, (Go.part 3 (ic k h) (i * 1)).run Try.prog w = .ok (.int .i64 ((h i : Nat) : Int)) w := fun h => by
      simp [Go.part, isAgg, run_underlying Try.underlying3, ic_at k h i hi]
    have he : (Op.equalIn 9999 3 (.int .i64 ((f i : Nat) : Int)) (.int .i64 ((g i : Nat) : Int))).run Try.prog w = .ok (f i == g i) w := by
      rw [run_equalIn_int w 9998 3 .i64 .i64 _ _ Try.underlying3]
      congr 1
      rw [Bool.eq_iff_iff]
      simp
      omega
    simp only [List.forIn_cons, Sem.run_bind, hp, he, Result.andThen_ok, List.all_cons]
    cases hb : (f i == g i)
    · simp
    · simp only [Bool.not_true, Bool.false_eq_true, if_false, Sem.run_pure, Result.andThen_ok, Bool.true_and]
      exact ih fun j hj => hr j (by simp [hj])
theorem eqN (m n : Nat) (hm : m < MB) (hn : n < MB) (w : World) : (Op.equalIn 10000 46 (.agg (bn m)) (.agg (bn n))).run Try.prog w = .ok (decide (m = n)) w := by
  have e : ((List.range 40).all fun i => dg 256 m i == dg 256 n i) = decide (m = n) := by
    rw [Bool.eq_iff_iff]
    simp only [List.all_eq_true, List.mem_range, beq_iff_eq, decide_eq_true_eq]
    exact ⟨fun h => dg_ext hm hn h, fun h i _ => by rw [h]⟩
  rw [← e]
  exact eq_ic _ 40 Try.underlying46 _ _ w
/-- Numbers held against each other, byte by byte. -/
theorem div_byte_step (B m i : Nat) : m / B ^ i = B * (m / B ^ (i + 1)) + dg B m i := by
  unfold dg
  rw [Nat.pow_succ, ← Nat.div_div_eq_div_mul]
  exact (Nat.div_add_mod _ _).symm
theorem byte_eq {B m n i : Nat} (h : m / B ^ (i + 1) = n / B ^ (i + 1)) (e : dg B m i = dg B n i) : m / B ^ i = n / B ^ i := by
  rw [div_byte_step, div_byte_step B n, h, e]
theorem byte_lt {B m n i : Nat} (h : m / B ^ (i + 1) = n / B ^ (i + 1)) (e : dg B m i < dg B n i) : m < n := by
  have h1 := div_byte_step B m i
  have h2 := div_byte_step B n i
  rw [h] at h1
  rcases Nat.lt_or_ge m n with h' | h'
  · exact h'
  · have := Nat.div_le_div_right (c := B ^ i) h'
    omega
section
set_option maxRecDepth 10000
set_option maxHeartbeats 2000000
theorem zeroN_any (m : Nat) (hm : m < MB) (w : World) : Calls Try.prog 28 #[.agg (bn m)] w fun e w' => e = .returned (.bool (decide (m = 0))) ∧ Below w.heap.size w w' := by
  have HE := hide fun W => eqN m 0 hm MB_pos W
  have H1 := hide (heap_alloc_last w (.cells (bn m) 46))
  generalize decide (m = 0) = v at *
  go_enter Try.func28, Try.ntmps28
  go_wp2_with (first | refine wpList_boxA rfl _ rfl (bn m) rfl ?_ | refine wpList_loadA AN rfl _ rfl _ rfl (bn m) (bn_size _) 46 H1.out ?_ | refine wpList_buildA AN rfl rfl ?_ | refine wpList_eql 46 _ _ _ rfl (bn m) (bn 0) rfl rfl rfl eqgN v HE.out ?_)
  go_ret
  exact ⟨rfl, (Below.refl _ _).alloc (Nat.le_refl _) _⟩
theorem less_any (m n : Nat) (hm : m < MB) (hn : n < MB) (w : World) : Calls Try.prog 29 #[.agg (bn m), .agg (bn n)] w fun e w' => e = .returned (.bool (decide (m < n))) ∧ Below w.heap.size w w' := by
  obtain ⟨e1, e2⟩ := blk2x w (.cells (bn m) 46) (.cells (bn n) 46)
  have J0 : Hid (Ni ((w.alloc (.cells (bn m) 46)).alloc (.cells (bn n) 46)) w.heap.size 46 40 (dg 256 m) ∧ Ni ((w.alloc (.cells (bn m) 46)).alloc (.cells (bn n) 46)) (w.heap.size + 1) 46 40 (dg 256 n) ∧ Below w.heap.size w ((w.alloc (.cells (bn m) 46)).alloc (.cells (bn n) 46))) := ⟨Ni.of_heap e1, Ni.of_heap e2, below2x w _ _⟩
  have H4 : Hid (m / 256 ^ 40 = n / 256 ^ 40) := by
    show m / MB = n / MB
    rw [Nat.div_eq_of_lt hm, Nat.div_eq_of_lt hn]
  clear e1 e2 hm hn
  go_enter Try.func29, Try.ntmps29
  go_wp2_with (first | refine wpList_boxA rfl _ rfl (bn m) rfl ?_ | refine wpList_boxA rfl _ rfl (bn n) rfl ?_)
  generalize (w.alloc (.cells (bn m) 46)).alloc (.cells (bn n) 46) = W0 at *
  go_loopw [5] (fun d wr => ∃ i : Nat, i ≤ 40 ∧ d = .int .i64 ((i : Int) - 1) ∧ Hid (Ni wr w.heap.size 46 40 (dg 256 m) ∧ Ni wr (w.heap.size + 1) 46 40 (dg 256 n) ∧ Below w.heap.size w wr) ∧ Hid (m / 256 ^ i = n / 256 ^ i)) (fun d _ => (1 + intOf d).toNat)
  case atStart => exact ⟨40, by omega, rfl, J0, H4⟩
  case round =>
    clear J0 H4
    obtain ⟨i, hi, rfl, J, H⟩ := hrel
    rcases i with _ | i
    · have h0 : ¬ (0 : Int) ≤ ((0 : Nat) : Int) - 1 := by omega
      have hz : Hid (decide (m < n) = false) := by
        have := H.out
        simp at this
        unfold Hid
        simp [this]
      go_wp2
      go_ret
      exact ⟨by rw [hz.out]; rfl, J.out.2.2⟩
    · have e1 : ((i + 1 : Nat) : Int) - 1 = i := by omega
      have hi4 : (i : Int) < 40 := by omega
      have b0 : (0 : Int) ≤ i := by omega
      have ca := J.out.1.cell (show i < 40 by omega)
      have cb := J.out.2.1.cell (show i < 40 by omega)
      have hlt4 := hide (show i ≤ 40 by omega)
      rw [e1]
      by_cases h : dg 256 m i = dg 256 n i
      · have H1 := hide (byte_eq H.out h)
        rw [h] at ca
        clear h hi
        generalize hB : ((dg 256 n i : Nat) : Int) = B at *
        clear hB
        have hBB : (B != B) = false := by simp
        go_upto_region 4 with fail
        go_quiet (fail)
        go_wp2
        exact ⟨⟨i, hlt4.out, rfl, ⟨J.out.1, J.out.2.1, below_drewN J.out.2.2 _⟩, H1⟩, by simp [intOf]; omega⟩
      · have hz : Hid (decide (m < n) = decide (((dg 256 m i : Nat) : Int) < ((dg 256 n i : Nat) : Int))) := by
          unfold Hid
          rcases Nat.lt_or_ge (dg 256 m i) (dg 256 n i) with h1 | h1
          · have := byte_lt H.out h1
            simp [this]
            omega
          · have := byte_lt H.out.symm (show dg 256 n i < dg 256 m i by omega)
            rw [show decide (m < n) = false by simp; omega]
            simp
            omega
        have hne : (((dg 256 m i : Nat) : Int) != ((dg 256 n i : Nat) : Int)) = true := by simp; omega
        clear h hi
        generalize ((dg 256 m i : Nat) : Int) = A at *
        generalize ((dg 256 n i : Nat) : Int) = B at *
        go_upto_region 4 with fail
        go_quiet (fail)
        have ca1 : (wr.drewN nq).cell? ⟨w.heap.size, i, none⟩ = some (.int .i64 A) := ca
        have cb1 : (wr.drewN nq).cell? ⟨w.heap.size + 1, i, none⟩ = some (.int .i64 B) := cb
        have B1 := hide (below_drewN J.out.2.2 nq)
        generalize wr.drewN nq = wr1 at *
        clear ca cb J
        go_upto_region 5 with fail
        go_quiet (fail)
        go_wp2
        go_ret
        exact ⟨by rw [hz.out]; rfl, below_drewN B1.out _⟩
end
end Go.Proofs.Ytmfpnlnhebjelaa
