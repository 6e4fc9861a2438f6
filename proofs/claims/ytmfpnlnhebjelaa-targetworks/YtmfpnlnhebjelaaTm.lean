/- The contract of the document's FromWords. -/
import Derived.Test.YtmfpnlnhebjelaaTl
namespace Go.Proofs.Ytmfpnlnhebjelaa
open Go.RowKit
open Go.Deep
/-- A number's words, an answer's place, and a row of bytes. -/
structure Fw (w W : World) (m : Nat) (f : Nat → Nat) : Prop where
  a : Nd W w.heap.size 23 4 (wd m)
  r : W.heap[w.heap.size + 1]? = some (.cells (bn 0) 46 (0, 0))
  o : Ni W (w.heap.size + 1 + 1) 46 40 f
  bel : Below w.heap.size w W
theorem Fw.start (w : World) (m : Nat) : Fw w (((w.alloc (.cells (wn m) 23)).alloc (.cells (bn 0) 46)).alloc (.cells (bn 0) 46)) m (dg 256 0) := by
  obtain ⟨e1, e2, e3⟩ := blk3 w (.cells (wn m) 23) (.cells (bn 0) 46) (.cells (bn 0) 46)
  exact ⟨Nd.of_heap e1, e2, Ni.of_heap e3, below3 w _ _ _⟩
theorem Fw.set {w W : World} {m : Nat} {f : Nat → Nat} (j : Fw w W m f) (i x : Nat) {f' : Nat → Nat} (e : ∀ k, k < 40 → (if k = i then x else f k) = f' k) : Fw w (W.setCell ⟨w.heap.size + 1 + 1, i, none⟩ (.int .i64 ((x : Nat) : Int))) m f' :=
  ⟨j.a.other (by omega) _ _, (Below.heap_setCell _ _ _ _ (by simp <;> omega)).trans j.r, (j.o.set i x).congr e, j.bel.setCell (by simp <;> omega) _⟩
theorem Fw.congr {w W : World} {m : Nat} {f f' : Nat → Nat} (j : Fw w W m f) (e : ∀ i, i < 40 → f i = f' i) : Fw w W m f' := ⟨j.a, j.r, j.o.congr e, j.bel⟩
theorem mixd_32 (m j : Nat) (hm : m < M) : mixd m 0 32 j = dg 256 m j := by
  unfold mixd
  split
  · rfl
  · rename_i h
    have e : M = 256 ^ 32 := by decide +kernel
    have h2 : 256 ^ 32 ≤ 256 ^ j := Nat.pow_le_pow_right (by decide) (by omega)
    rw [dg_zero, dg, Nat.div_eq_of_lt (by omega), Nat.zero_mod]
section
set_option maxRecDepth 10000
set_option maxHeartbeats 2000000
theorem fromWords_any (m : Nat) (hm : m < M) (w : World) : Calls Try.prog 20 #[.agg (wn m)] w fun e w' => e = .returned (.agg (bn m)) ∧ Below w.heap.size w w' := by
  have J0 := hide ((Fw.start w m).congr (fun j _ => mixd_zero m 0 j))
  have HE : Hid (∀ j, mixd m 0 32 j = dg 256 m j) := fun j => mixd_32 m j hm
  clear hm
  go_enter Try.func20, Try.ntmps20
  go_wp2_with (first | refine wpList_boxA rfl _ rfl (wn m) rfl ?_ | refine wpList_allocA AN rfl rfl ?_ | refine wpList_buildA AN rfl rfl ?_ | refine wpList_store_newA AN rfl _ _ rfl _ rfl (bn 0) (bn_size _) (bn_one _) rfl rfl ?_)
  generalize ((w.alloc (.cells (wn m) 23)).alloc (.cells (bn 0) 46)).alloc (.cells (bn 0) 46) = W0 at *
  go_loopw [4] (fun d wr => ∃ i : Nat, i ≤ 32 ∧ d = .int .i64 i ∧ Hid (Fw w wr m (mixd m 0 i))) (fun d _ => (32 - intOf d).toNat)
  case atStart => exact ⟨0, by omega, rfl, J0⟩
  case round =>
    clear J0
    obtain ⟨i, hi, rfl, J⟩ := hrel
    by_cases hlt : i < 32
    · have hi4 : (i : Int) < 32 := by omega
      have hi5 : (i : Int) < 40 := by omega
      have i0 : (0 : Int) ≤ i := by omega
      have ca := J.out.a.cell (show i / 8 < 4 by omega)
      have co := J.out.o.cell (show i < 40 by omega)
      have fo := J.out.o.fz i
      have d1 : (i : Int) / 8 = ((i / 8 : Nat) : Int) := by omega
      have d2 : (i : Int) % 8 = ((i % 8 : Nat) : Int) := by omega
      have q4 : ((i / 8 : Nat) : Int) < 4 := by omega
      have q0 : (0 : Int) ≤ ((i / 8 : Nat) : Int) := by omega
      have c1 : IntKind.i64.wrap (8 * ((i % 8 : Nat) : Int)) = ((8 * (i % 8) : Nat) : Int) := by rw [wrapI _ (by omega) (by omega)]; omega
      have c2 : IntKind.u64.wrap ((8 * (i % 8) : Nat) : Int) = ((8 * (i % 8) : Nat) : Int) := wrapu _ (by omega) (by omega)
      have r6 : ((8 * (i % 8) : Nat) : Int) ≤ 64 := by omega
      have r0 : (0 : Int) ≤ ((8 * (i % 8) : Nat) : Int) := by omega
      have hmn : min (8 * (i % 8)) 64 = 8 * (i % 8) := by omega
      have hiw : IntKind.i64.wrap ((i : Int) + 1) = i + 1 := wrapI _ (by omega) (by omega)
      have x0 := shr_word (wd m (i / 8)) (8 * (i % 8))
      have h8 := dg8 m i
      have hdl := dg_lt (B := 256) (by decide) m i
      have HR : Hid (∀ j, j < 40 → (if j = i then dg 256 m i else mixd m 0 i j) = mixd m 0 (i + 1) j) := fun j _ => mixd_step m 0 i j
      obtain ⟨x, hx⟩ : ∃ x, x = dg 256 m i := ⟨_, rfl⟩
      rw [← hx] at h8 hdl HR
      obtain ⟨z, hz⟩ : ∃ z, z = wd m (i / 8) / 2 ^ (8 * (i % 8)) := ⟨_, rfl⟩
      rw [← hz] at x0 h8
      have x1 : (z : Int) % 256 = (x : Int) := by omega
      have x3 : IntKind.i64.wrap (x : Int) = (x : Int) := wrapI _ (by omega) (by omega)
      have x2 : Int.tmod (z : Int) 256 = (x : Int) := by rw [Int.tmod_eq_emod_of_nonneg (Int.natCast_nonneg _)]; exact x1
      have LL := hide hlt
      clear hlt hi h8 hdl hx hz
      generalize wd m (i / 8) = W8 at *
      generalize 8 * (i % 8) = r at *
      generalize i % 8 = e at *
      generalize i / 8 = q at *
      go_wp2
      have L4 := LL.out
      exact ⟨⟨i + 1, by omega, by go_num, hide (J.out.set i x HR.out)⟩, by simp [intOf]; omega⟩
    · have hke : i = 32 := by omega
      subst hke
      have H2 := (J.out.o.congr (f' := dg 256 m) (fun j _ => HE.out j)).heap
      go_wp2_with (first | refine wpList_loadA AN rfl _ rfl _ rfl (bn m) (bn_size _) 46 H2 ?_ | refine wpList_storeA AN rfl _ _ rfl _ (bn m) (bn_size _) (bn_one _) rfl rfl (bn 0) (bn_size 0) 46 J.out.r ?_)
      exact bodyPost_ret (v := .agg (bn m)) (resA AN Try.results20 _ _ (w.heap.size + 1) 46 (bn m) (bn_size _) rfl (setRow_heap _ _ _ _ _ _ J.out.r)) rfl ⟨rfl, below_setRow J.out.bel (by omega) _⟩
end
end Go.Proofs.Ytmfpnlnhebjelaa
