/- The contract of the document's Words. -/
import Derived.Test.YtmfpnlnhebjelaaTm
namespace Go.Proofs.Ytmfpnlnhebjelaa
open Go.RowKit
open Go.Deep
/-- The word q behind all bytes from k on. -/
def wpt (m k q : Nat) : Nat := m / 256 ^ (max k (8 * q)) % 256 ^ (8 * (q + 1) - max k (8 * q))
theorem wpt_start (m q : Nat) (h : q < 4) : wpt m 32 q = 0 := by
  unfold wpt
  rw [show 8 * (q + 1) - max 32 (8 * q) = 0 by omega, Nat.pow_zero, Nat.mod_one]
theorem wpt_end (m q : Nat) : wpt m 0 q = wd m q := by
  unfold wpt wd dg
  rw [show max 0 (8 * q) = 8 * q by omega, show 8 * (q + 1) - 8 * q = 8 by omega, Nat.pow_mul]
theorem wpt_step (m k : Nat) : wpt m (k + 1) (k / 8) * 256 + dg 256 m k = wpt m k (k / 8) := by
  unfold wpt dg
  obtain ⟨e, he⟩ : ∃ e, 8 * (k / 8 + 1) = k + 1 + e := ⟨8 * (k / 8 + 1) - (k + 1), by omega⟩
  rw [show max (k + 1) (8 * (k / 8)) = k + 1 by omega, show max k (8 * (k / 8)) = k by omega, he, show k + 1 + e - (k + 1) = e by omega, show k + 1 + e - k = e + 1 by omega, Nat.pow_succ, ← Nat.div_div_eq_div_mul, Nat.pow_succ, Nat.mul_comm (256 ^ e) 256, Nat.mod_mul]
  omega
theorem wpt_other (m k q : Nat) (h : q ≠ k / 8) : wpt m k q = wpt m (k + 1) q := by
  unfold wpt
  rcases Nat.lt_or_ge q (k / 8) with h2 | h2
  · rw [show 8 * (q + 1) - max k (8 * q) = 0 by omega, show 8 * (q + 1) - max (k + 1) (8 * q) = 0 by omega, Nat.pow_zero, Nat.mod_one, Nat.mod_one]
  · rw [show max k (8 * q) = max (k + 1) (8 * q) by omega]
theorem wpt_lt (m k q : Nat) : wpt m k q < 18446744073709551616 := by
  unfold wpt
  have h1 : m / 256 ^ (max k (8 * q)) % 256 ^ (8 * (q + 1) - max k (8 * q)) < 256 ^ (8 * (q + 1) - max k (8 * q)) := Nat.mod_lt _ (Nat.pow_pos (by decide))
  have h2 : 256 ^ (8 * (q + 1) - max k (8 * q)) ≤ 256 ^ 8 := Nat.pow_le_pow_right (by decide) (by omega)
  have h3 : (256 : Nat) ^ 8 = 18446744073709551616 := by decide
  omega
/-- A number's bytes, an answer's place, and a row of words. -/
structure Wo (w W : World) (m : Nat) (f : Nat → Nat) : Prop where
  a : Ni W w.heap.size 46 40 (dg 256 m)
  r : W.heap[w.heap.size + 1]? = some (.cells (wn 0) 23 (0, 0))
  o : Nd W (w.heap.size + 1 + 1) 23 4 f
  bel : Below w.heap.size w W
theorem Wo.start (w : World) (m : Nat) : Wo w (((w.alloc (.cells (bn m) 46)).alloc (.cells (wn 0) 23)).alloc (.cells (wn 0) 23)) m (wd 0) := by
  obtain ⟨e1, e2, e3⟩ := blk3 w (.cells (bn m) 46) (.cells (wn 0) 23) (.cells (wn 0) 23)
  exact ⟨Ni.of_heap e1, e2, Nd.of_heap e3, below3 w _ _ _⟩
theorem Wo.set {w W : World} {m : Nat} {f : Nat → Nat} (j : Wo w W m f) (i x : Nat) {f' : Nat → Nat} (e : ∀ k, k < 4 → (if k = i then x else f k) = f' k) : Wo w (W.setCell ⟨w.heap.size + 1 + 1, i, none⟩ (.int .u64 ((x : Nat) : Int))) m f' :=
  ⟨j.a.other (by omega) _ _, (Below.heap_setCell _ _ _ _ (by simp <;> omega)).trans j.r, (j.o.set i x).congr e, j.bel.setCell (by simp <;> omega) _⟩
theorem Wo.congr {w W : World} {m : Nat} {f f' : Nat → Nat} (j : Wo w W m f) (e : ∀ i, i < 4 → f i = f' i) : Wo w W m f' := ⟨j.a, j.r, j.o.congr e, j.bel⟩
theorem Wo.drew {w W : World} {m : Nat} {f : Nat → Nat} (j : Wo w W m f) : Wo w W.drew m f := ⟨j.a, j.r, j.o, j.bel.drew⟩
theorem wd0 (q : Nat) : wd 0 q = 0 := by simp [wd, dg]
section
set_option maxRecDepth 10000
set_option maxHeartbeats 2000000
theorem words_any (m : Nat) (w : World) : Calls Try.prog 23 #[.agg (bn m)] w fun e w' => e = .returned (.agg (wn m)) ∧ Below w.heap.size w w' := by
  have J0 := hide ((Wo.start w m).congr (f' := wpt m 32) (fun q hq => by rw [wd0, wpt_start m q hq]))
  go_enter Try.func23, Try.ntmps23
  go_wp2_with (first | refine wpList_boxA rfl _ rfl (bn m) rfl ?_ | refine wpList_allocA AR rfl rfl ?_ | refine wpList_buildA AR rfl rfl ?_ | refine wpList_store_newA AR rfl _ _ rfl _ rfl (wn 0) (wn_size _) (wn_one _) rfl rfl ?_)
  generalize ((w.alloc (.cells (bn m) 46)).alloc (.cells (wn 0) 23)).alloc (.cells (wn 0) 23) = W0 at *
  go_loopw [4] (fun d wr => ∃ k : Nat, k ≤ 32 ∧ d = .int .i64 ((k : Int) - 1) ∧ Hid (Wo w wr m (wpt m k))) (fun d _ => (1 + intOf d).toNat)
  case atStart => exact ⟨32, by omega, rfl, J0⟩
  case round =>
    clear J0
    obtain ⟨k, hk, rfl, J⟩ := hrel
    rcases k with _ | k
    · have t1 : ¬ (0 : Int) ≤ ((0 : Nat) : Int) - 1 := by omega
      have H2 := (J.out.o.congr (f' := wd m) (fun q _ => wpt_end m q)).heap
      go_wp2_with (first | refine wpList_loadA AR rfl _ rfl _ rfl (wn m) (wn_size _) 23 H2 ?_ | refine wpList_storeA AR rfl _ _ rfl _ (wn m) (wn_size _) (wn_one _) rfl rfl (wn 0) (wn_size 0) 23 J.out.r ?_)
      exact bodyPost_ret (v := .agg (wn m)) (resA AR Try.results23 _ _ (w.heap.size + 1) 23 (wn m) (wn_size _) rfl (setRow_heap _ _ _ _ _ _ J.out.r)) rfl ⟨rfl, below_setRow J.out.bel (by omega) _⟩
    · have e1 : ((k + 1 : Nat) : Int) - 1 = k := by omega
      rw [e1]
      have k0 : (0 : Int) ≤ k := by omega
      have k1 : (k : Int) < 40 := by omega
      have ca := J.out.a.cell (show k < 40 by omega)
      have co := J.out.o.cell (show k / 8 < 4 by omega)
      have fo := J.out.o.fz (k / 8)
      have d1 : (k : Int) / 8 = ((k / 8 : Nat) : Int) := by omega
      have q4 : ((k / 8 : Nat) : Int) < 4 := by omega
      have q0 : (0 : Int) ≤ ((k / 8 : Nat) : Int) := by omega
      have hkw : IntKind.i64.wrap ((k : Int) - 1) = k - 1 := wrapI _ (by omega) (by omega)
      have hst := wpt_step m k
      have hl := wpt_lt m k (k / 8)
      have hdl := dg_lt (B := 256) (by decide) m k
      have HR : Hid (∀ q, q < 4 → (if q = k / 8 then wpt m k (k / 8) else wpt m (k + 1) q) = wpt m k q) := fun q _ => by
        split
        · rename_i h
          rw [h]
        · rename_i h
          exact (wpt_other m k q h).symm
      obtain ⟨z, hz⟩ : ∃ z, z = wpt m k (k / 8) := ⟨_, rfl⟩
      rw [← hz] at hst hl HR
      obtain ⟨x, hx⟩ : ∃ x, x = dg 256 m k := ⟨_, rfl⟩
      rw [← hx] at hst hdl ca
      obtain ⟨y, hy⟩ : ∃ y, y = wpt m (k + 1) (k / 8) := ⟨_, rfl⟩
      rw [← hy] at hst co
      have w1 : IntKind.u64.wrap ((y : Int) * 256) = ((y * 256 : Nat) : Int) := by rw [wrapu _ (by omega) (by omega)]; omega
      have w2 : IntKind.u64.wrap (x : Int) = (x : Int) := wrapu _ (by omega) (by omega)
      have w3 : IntKind.u64.wrap (((y * 256 : Nat) : Int) + (x : Int)) = (z : Int) := by rw [wrapu _ (by omega) (by omega)]; omega
      have LK := hide hk
      obtain ⟨y2, hy2⟩ : ∃ y2, y2 = y * 256 := ⟨_, rfl⟩
      rw [← hy2] at w1 w3
      clear hk hst hl hdl hz hx hy hy2 e1
      generalize hq : k / 8 = q at *
      clear hq
      go_upto_region 5 with fail
      go_region
      go_wp2
      have L4 := LK.out
      exact ⟨⟨k, by omega, rfl, hide (J.out.set q z HR.out).drew⟩, by simp [intOf]; omega⟩
end
end Go.Proofs.Ytmfpnlnhebjelaa
