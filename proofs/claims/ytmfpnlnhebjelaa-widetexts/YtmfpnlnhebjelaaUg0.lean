/- The contracts of wide.Bytes and the document's Bytes. -/
import Derived.Test.YtmfpnlnhebjelaaUb0
import Derived.Test.YtmfpnlnhebjelaaWu
namespace Go.Proofs.Ytmfpnlnhebjelaa
open Go.RowKit
open Go.Deep
theorem bc_one (k : Nat) (f : Nat → Nat) : (bc k f).all (·.oneCell') = true := by
  rw [Array.all_eq_true_iff_forall_mem]
  intro v hv
  simp only [bc, List.mem_toArray, List.mem_map] at hv
  obtain ⟨b, _, rfl⟩ := hv
  rfl
theorem AHb : Arr 29 32 (bc 32 (fun _ => 0)) := ⟨.inl ⟨_, _, Try.underlying29⟩, by kernel_rfl, fun w => by kernel_rfl, fun w => by kernel_rfl, bc_size 32 _⟩
theorem ARb : Arr 28 32 (bc 32 (fun _ => 0)) := ⟨.inl ⟨_, _, Try.underlying28⟩, by kernel_rfl, fun w => by kernel_rfl, fun w => by kernel_rfl, bc_size 32 _⟩
/-- A byte of a number, out of its word. -/
theorem dg8b (m i : Nat) : wd m (i / 8) / 2 ^ (8 * (i % 8)) % 256 = dg 256 m i := by
  unfold wd dg
  have e : 256 ^ i = 18446744073709551616 ^ (i / 8) * 2 ^ (8 * (i % 8)) := by
    rw [show (18446744073709551616 : Nat) = 2 ^ 64 from rfl, show (256 : Nat) = 2 ^ 8 from rfl, ← Nat.pow_mul, ← Nat.pow_mul, ← Nat.pow_add]
    congr 1
    omega
  rw [e, ← Nat.div_div_eq_div_mul]
  generalize m / 18446744073709551616 ^ (i / 8) = X
  have h8 : (18446744073709551616 : Nat) = 2 ^ (8 * (i % 8)) * (256 * 2 ^ (56 - 8 * (i % 8))) := by
    rw [show (256 : Nat) = 2 ^ 8 from rfl, ← Nat.pow_add, ← Nat.pow_add, show 8 * (i % 8) + (8 + (56 - 8 * (i % 8))) = 64 by omega]
  rw [h8, Nat.mod_mul_right_div_self, Nat.mod_mul_right_mod]
/-- The first i bytes of a number, zeros behind. -/
def lowf (m i j : Nat) : Nat := if j < i then dg 256 m j else 0
theorem lowf_zero (m j : Nat) : 0 = lowf m 0 j := by simp [lowf]
theorem lowf_step (m i j : Nat) : (if j = i then dg 256 m i else lowf m i j) = lowf m (i + 1) j := by
  unfold lowf
  by_cases e : j = i
  · rw [if_pos e, if_pos (by omega), e]
  · rw [if_neg e]
    by_cases e2 : j < i
    · rw [if_pos e2, if_pos (by omega)]
    · rw [if_neg e2, if_neg (by omega)]
/-- A number's words, an answer's place, and a row of bytes. -/
structure By (w W : World) (t u : TypeId) (m : Nat) (f : Nat → Nat) : Prop where
  a : Nd W w.heap.size t 4 (wd m)
  r : W.heap[w.heap.size + 1]? = some (.cells (bc 32 (fun _ => 0)) u (0, 0))
  o : Nb W (w.heap.size + 1 + 1) u 32 f
  bel : Below w.heap.size w W
theorem By.start (w : World) (t u : TypeId) (m : Nat) : By w (((w.alloc (.cells (wn m) t)).alloc (.cells (bc 32 (fun _ => 0)) u)).alloc (.cells (bc 32 (fun _ => 0)) u)) t u m (fun _ => 0) := by
  obtain ⟨e1, e2, e3⟩ := blk3 w (.cells (wn m) t) (.cells (bc 32 (fun _ => 0)) u) (.cells (bc 32 (fun _ => 0)) u)
  exact ⟨Nd.of_heap e1, e2, Nb.of_heap e3, below3 w _ _ _⟩
theorem By.set {w W : World} {t u : TypeId} {m : Nat} {f : Nat → Nat} (j : By w W t u m f) (i x : Nat) {f' : Nat → Nat} (e : ∀ k, k < 32 → (if k = i then x else f k) = f' k) : By w (W.setCell ⟨w.heap.size + 1 + 1, i, none⟩ (.int .u8 ((x : Nat) : Int))) t u m f' :=
  ⟨j.a.other (by omega) _ _, (Below.heap_setCell _ _ _ _ (by simp <;> omega)).trans j.r, (j.o.set i x).congr e, j.bel.setCell (by simp <;> omega) _⟩
theorem By.congr {w W : World} {t u : TypeId} {m : Nat} {f f' : Nat → Nat} (j : By w W t u m f) (e : ∀ i, i < 32 → f i = f' i) : By w W t u m f' := ⟨j.a, j.r, j.o.congr e, j.bel⟩
section
set_option maxRecDepth 10000
set_option maxHeartbeats 2000000
theorem bytesW_any (m : Nat) (w : World) : Calls Try.prog 11 #[.agg (wn m)] w fun e w' => e = .returned (.agg (bc 32 (dg 256 m))) ∧ Below w.heap.size w w' := by
  have J0 := hide ((By.start w 24 29 m).congr (fun j _ => lowf_zero m j))
  go_enter Try.func11, Try.ntmps11
  go_wp2_with (first | refine wpList_boxA rfl _ rfl (wn m) rfl ?_ | refine wpList_allocA AHb rfl rfl ?_)
  generalize ((w.alloc (.cells (wn m) 24)).alloc (.cells (bc 32 (fun _ => 0)) 29)).alloc (.cells (bc 32 (fun _ => 0)) 29) = W0 at *
  go_loopw [4, 5] (fun _ d wr => ∃ i : Nat, i ≤ 32 ∧ d = .int .i64 i ∧ Hid (By w wr 24 29 m (lowf m i))) (fun _ d _ => (32 - intOf d).toNat)
  case atStart => exact ⟨0, by omega, rfl, J0⟩
  case round =>
    clear J0
    obtain ⟨i, hi, rfl, J⟩ := hrel
    by_cases hlt : i < 32
    · have hi4 : (i : Int) < 32 := by omega
      have i0 : (0 : Int) ≤ i := by omega
      have ca := J.out.a.cell (show i / 8 < 4 by omega)
      have co := J.out.o.cell (show i < 32 by omega)
      have fo := J.out.o.fz i
      have d1 : (i : Int) / 8 = ((i / 8 : Nat) : Int) := by omega
      have d2 : (i : Int) % 8 = ((i % 8 : Nat) : Int) := by omega
      have q4 : ((i / 8 : Nat) : Int) < 4 := by omega
      have q0 : (0 : Int) ≤ ((i / 8 : Nat) : Int) := by omega
      have c1 : IntKind.i64.wrap (8 * ((i % 8 : Nat) : Int)) = ((8 * (i % 8) : Nat) : Int) := by rw [wrapI _ (by omega) (by omega)]; omega
      have r6 : ((8 * (i % 8) : Nat) : Int) ≤ 64 := by omega
      have r0 : (0 : Int) ≤ ((8 * (i % 8) : Nat) : Int) := by omega
      have hiw : IntKind.i64.wrap ((i : Int) + 1) = i + 1 := wrapI _ (by omega) (by omega)
      have x0 := shr_word (wd m (i / 8)) (8 * (i % 8))
      have h8 := dg8b m i
      have HR : Hid (∀ j, j < 32 → (if j = i then dg 256 m i else lowf m i j) = lowf m (i + 1) j) := fun j _ => lowf_step m i j
      obtain ⟨x, hx⟩ : ∃ x, x = dg 256 m i := ⟨_, rfl⟩
      rw [← hx] at h8 HR
      obtain ⟨z, hz⟩ : ∃ z, z = wd m (i / 8) / 2 ^ (8 * (i % 8)) := ⟨_, rfl⟩
      rw [← hz] at x0 h8
      have x3 : IntKind.u8.wrap (z : Int) = (x : Int) := by simp only [IntKind.wrap_u8]; omega
      have x4 : (z : Int) % 256 = (x : Int) := by omega
      have LL := hide hlt
      clear hlt hi h8 hx hz
      generalize wd m (i / 8) = W8 at *
      generalize 8 * (i % 8) = r at *
      generalize i % 8 = e at *
      generalize i / 8 = q at *
      go_wp2
      have L4 := LL.out
      exact ⟨⟨i + 1, by omega, by go_num, hide (J.out.set i x HR.out)⟩, by simp [intOf]; omega⟩
    · have hke : i = 32 := by omega
      subst hke
      have H2 := (J.out.o.congr (f' := dg 256 m) (fun j hj => by rw [lowf, if_pos hj])).heap
      go_wp2_with (first | refine wpList_loadA AHb rfl _ rfl _ rfl (bc 32 (dg 256 m)) (bc_size _ _) 29 H2 ?_ | refine wpList_storeA AHb rfl _ _ rfl _ (bc 32 (dg 256 m)) (bc_size _ _) (bc_one _ _) rfl rfl (bc 32 (fun _ => 0)) (bc_size _ _) 29 J.out.r ?_)
      exact bodyPost_ret (v := .agg (bc 32 (dg 256 m))) (resA AHb Try.results11 _ _ (w.heap.size + 1) 29 (bc 32 (dg 256 m)) (bc_size _ _) rfl (setRow_heap _ _ _ _ _ _ J.out.r)) rfl ⟨rfl, below_setRow J.out.bel (by omega) _⟩
theorem rbytes_any (m : Nat) (w : World) : Calls Try.prog 12 #[.agg (wn m)] w fun e w' => e = .returned (.agg (bc 32 (dg 256 m))) ∧ Below w.heap.size w w' := by
  have J0 := hide ((By.start w 23 28 m).congr (fun j _ => lowf_zero m j))
  go_enter Try.func12, Try.ntmps12
  go_wp2_with (first | refine wpList_boxA rfl _ rfl (wn m) rfl ?_ | refine wpList_allocA ARb rfl rfl ?_ | refine wpList_buildA ARb rfl rfl ?_ | refine wpList_store_newA ARb rfl _ _ rfl _ rfl (bc 32 (fun _ => 0)) (bc_size _ _) (bc_one _ _) rfl rfl ?_)
  generalize ((w.alloc (.cells (wn m) 23)).alloc (.cells (bc 32 (fun _ => 0)) 28)).alloc (.cells (bc 32 (fun _ => 0)) 28) = W0 at *
  go_loopw [4] (fun d wr => ∃ i : Nat, i ≤ 32 ∧ d = .int .i64 i ∧ Hid (By w wr 23 28 m (lowf m i))) (fun d _ => (32 - intOf d).toNat)
  case atStart => exact ⟨0, by omega, rfl, J0⟩
  case round =>
    clear J0
    obtain ⟨i, hi, rfl, J⟩ := hrel
    by_cases hlt : i < 32
    · have hi4 : (i : Int) < 32 := by omega
      have i0 : (0 : Int) ≤ i := by omega
      have ca := J.out.a.cell (show i / 8 < 4 by omega)
      have co := J.out.o.cell (show i < 32 by omega)
      have fo := J.out.o.fz i
      have d1 : (i : Int) / 8 = ((i / 8 : Nat) : Int) := by omega
      have d2 : (i : Int) % 8 = ((i % 8 : Nat) : Int) := by omega
      have q4 : ((i / 8 : Nat) : Int) < 4 := by omega
      have q0 : (0 : Int) ≤ ((i / 8 : Nat) : Int) := by omega
      have c1 : IntKind.i64.wrap (8 * ((i % 8 : Nat) : Int)) = ((8 * (i % 8) : Nat) : Int) := by rw [wrapI _ (by omega) (by omega)]; omega
      have r6 : ((8 * (i % 8) : Nat) : Int) ≤ 64 := by omega
      have r0 : (0 : Int) ≤ ((8 * (i % 8) : Nat) : Int) := by omega
      have hiw : IntKind.i64.wrap ((i : Int) + 1) = i + 1 := wrapI _ (by omega) (by omega)
      have x0 := shr_word (wd m (i / 8)) (8 * (i % 8))
      have h8 := dg8b m i
      have HR : Hid (∀ j, j < 32 → (if j = i then dg 256 m i else lowf m i j) = lowf m (i + 1) j) := fun j _ => lowf_step m i j
      obtain ⟨x, hx⟩ : ∃ x, x = dg 256 m i := ⟨_, rfl⟩
      rw [← hx] at h8 HR
      obtain ⟨z, hz⟩ : ∃ z, z = wd m (i / 8) / 2 ^ (8 * (i % 8)) := ⟨_, rfl⟩
      rw [← hz] at x0 h8
      have x3 : IntKind.u8.wrap (z : Int) = (x : Int) := by simp only [IntKind.wrap_u8]; omega
      have x4 : (z : Int) % 256 = (x : Int) := by omega
      have LL := hide hlt
      clear hlt hi h8 hx hz
      generalize wd m (i / 8) = W8 at *
      generalize 8 * (i % 8) = r at *
      generalize i % 8 = e at *
      generalize i / 8 = q at *
      go_wp2
      have L4 := LL.out
      exact ⟨⟨i + 1, by omega, by go_num, hide (J.out.set i x HR.out)⟩, by simp [intOf]; omega⟩
    · have hke : i = 32 := by omega
      subst hke
      have H2 := (J.out.o.congr (f' := dg 256 m) (fun j hj => by rw [lowf, if_pos hj])).heap
      go_wp2_with (first | refine wpList_loadA ARb rfl _ rfl _ rfl (bc 32 (dg 256 m)) (bc_size _ _) 28 H2 ?_ | refine wpList_storeA ARb rfl _ _ rfl _ (bc 32 (dg 256 m)) (bc_size _ _) (bc_one _ _) rfl rfl (bc 32 (fun _ => 0)) (bc_size _ _) 28 J.out.r ?_)
      exact bodyPost_ret (v := .agg (bc 32 (dg 256 m))) (resA ARb Try.results12 _ _ (w.heap.size + 1) 28 (bc 32 (dg 256 m)) (bc_size _ _) rfl (setRow_heap _ _ _ _ _ _ J.out.r)) rfl ⟨rfl, below_setRow J.out.bel (by omega) _⟩
end
end Go.Proofs.Ytmfpnlnhebjelaa
