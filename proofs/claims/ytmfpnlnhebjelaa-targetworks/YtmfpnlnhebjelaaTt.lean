/- The contract of the document's Minus. -/
import Derived.Test.YtmfpnlnhebjelaaTk
namespace Go.Proofs.Ytmfpnlnhebjelaa
open Go.RowKit
open Go.Deep
/-- The carry into the digit i of a sum. -/
def cr (n d i : Nat) : Nat := (n % 256 ^ i + d % 256 ^ i) / 256 ^ i
theorem cr_zero (n d : Nat) : cr n d 0 = 0 := by simp [cr, Nat.mod_one]
theorem cr_le (n d i : Nat) : cr n d i ≤ 1 := by
  unfold cr
  have hP : 0 < 256 ^ i := Nat.pow_pos (by decide)
  have h1 := Nat.mod_lt n hP
  have h2 := Nat.mod_lt d hP
  have : (n % 256 ^ i + d % 256 ^ i) / 256 ^ i < 2 := Nat.div_lt_of_lt_mul (by omega)
  omega
theorem cr_step (n d i : Nat) : dg 256 (n + d) i + 256 * cr n d (i + 1) = dg 256 n i + dg 256 d i + cr n d i := by
  have hP : 0 < 256 ^ i := Nat.pow_pos (by decide)
  have hS : (n % 256 ^ (i + 1) + d % 256 ^ (i + 1)) / 256 ^ i = dg 256 n i + dg 256 d i + cr n d i := by
    rw [Nat.pow_succ, Nat.mod_mul, Nat.mod_mul]
    unfold dg cr
    rw [show n % 256 ^ i + 256 ^ i * (n / 256 ^ i % 256) + (d % 256 ^ i + 256 ^ i * (d / 256 ^ i % 256)) = n % 256 ^ i + d % 256 ^ i + 256 ^ i * (n / 256 ^ i % 256 + d / 256 ^ i % 256) by rw [Nat.mul_add]; omega, Nat.add_mul_div_left _ _ hP]
    omega
  have h1 : cr n d (i + 1) = (n % 256 ^ (i + 1) + d % 256 ^ (i + 1)) / 256 ^ i / 256 := by
    rw [Nat.div_div_eq_div_mul, ← Nat.pow_succ]
    rfl
  have h2 : dg 256 (n + d) i = (n % 256 ^ (i + 1) + d % 256 ^ (i + 1)) / 256 ^ i % 256 := by
    unfold dg
    have e : ∀ X : Nat, X / 256 ^ i % 256 = X % 256 ^ (i + 1) / 256 ^ i := fun X => by rw [Nat.pow_succ, Nat.mod_mul_right_div_self]
    rw [e, e (n % 256 ^ (i + 1) + d % 256 ^ (i + 1)), ← Nat.add_mod]
  rw [h1, h2, hS]
  omega
/-- A number that is changed in its place, another one, and an answer's place. -/
structure Mi (w W : World) (n : Nat) (f : Nat → Nat) : Prop where
  a : Ni W w.heap.size 46 40 f
  b : Ni W (w.heap.size + 1) 46 40 (dg 256 n)
  r : W.heap[w.heap.size + 1 + 1]? = some (.cells (bn 0) 46 (0, 0))
  bel : Below w.heap.size w W
theorem Mi.start (w : World) (m n : Nat) : Mi w (((w.alloc (.cells (bn m) 46)).alloc (.cells (bn n) 46)).alloc (.cells (bn 0) 46)) n (dg 256 m) := by
  obtain ⟨e1, e2, e3⟩ := blk3 w (.cells (bn m) 46) (.cells (bn n) 46) (.cells (bn 0) 46)
  exact ⟨Ni.of_heap e1, Ni.of_heap e2, e3, below3 w _ _ _⟩
section
variable {w W : World} {n : Nat} {f : Nat → Nat}
theorem Mi.set (j : Mi w W n f) (i x : Nat) {f' : Nat → Nat} (e : ∀ k, k < 40 → (if k = i then x else f k) = f' k) : Mi w (W.setCell ⟨w.heap.size, i, none⟩ (.int .i64 ((x : Nat) : Int))) n f' :=
  ⟨(j.a.set i x).congr e, j.b.other (by omega) _ _, (Below.heap_setCell _ _ _ _ (by simp <;> omega)).trans j.r, j.bel.setCell (Nat.le_refl _) _⟩
theorem Mi.set2 (j : Mi w W n f) (i x : Nat) (v : Value) {f' : Nat → Nat} (e : ∀ k, k < 40 → (if k = i then x else f k) = f' k) : Mi w ((W.setCell ⟨w.heap.size, i, none⟩ v).setCell ⟨w.heap.size, i, none⟩ (.int .i64 ((x : Nat) : Int))) n f' := by
  refine ⟨(World.rowIs.set (World.rowIs.set j.a i v) i _).congr (fun k hk => ?_), (j.b.other (by omega) _ _).other (by omega) _ _, (Below.heap_setCell _ _ _ _ (by simp <;> omega)).trans ((Below.heap_setCell _ _ _ _ (by simp <;> omega)).trans j.r), (j.bel.setCell (Nat.le_refl _) _).setCell (Nat.le_refl _) _⟩
  rw [← e k hk]
  by_cases h : k = i <;> simp [h]
theorem Mi.congr (j : Mi w W n f) {f' : Nat → Nat} (e : ∀ k, k < 40 → f k = f' k) : Mi w W n f' := ⟨j.a.congr e, j.b, j.r, j.bel⟩
theorem Mi.drew (j : Mi w W n f) : Mi w W.drew n f := ⟨j.a, j.b, j.r, j.bel.drew⟩
end
section
set_option maxRecDepth 10000
set_option maxHeartbeats 4000000
theorem minus_any (n d : Nat) (w : World) : Calls Try.prog 31 #[.agg (bn (n + d)), .agg (bn n)] w fun e w' => e = .returned (.agg (bn d)) ∧ Below w.heap.size w w' := by
  have J0 := hide ((Mi.start w (n + d) n).congr (fun j _ => mixd_zero d (n + d) j))
  go_enter Try.func31, Try.ntmps31
  go_wp2_with (first | refine wpList_boxA rfl _ rfl (bn (n + d)) rfl ?_ | refine wpList_boxA rfl _ rfl (bn n) rfl ?_ | refine wpList_allocA AN rfl rfl ?_)
  generalize ((w.alloc (.cells (bn (n + d)) 46)).alloc (.cells (bn n) 46)).alloc (.cells (bn 0) 46) = W0 at *
  go_loopw [5, 6] (fun c e wr => ∃ i : Nat, i ≤ 40 ∧ c = .int .i64 ((cr n d i : Nat) : Int) ∧ e = .int .i64 i ∧ Hid (Mi w wr n (mixd d (n + d) i))) (fun _ e _ => (40 - intOf e).toNat)
  case atStart => exact ⟨0, by omega, by rw [cr_zero]; rfl, rfl, J0⟩
  case round =>
    clear J0
    obtain ⟨i, hi, rfl, rfl, J⟩ := hrel
    by_cases hlt : i < 40
    · have hi4 : (i : Int) < 40 := by omega
      have i0 : (0 : Int) ≤ i := by omega
      have ca := J.out.a.cell hlt
      rw [mixd_at] at ca
      have fa := J.out.a.fz i
      have cb := J.out.b.cell hlt
      have hst := cr_step n d i
      have hc := cr_le n d i
      have hc2 := cr_le n d (i + 1)
      have h1 := dg_lt (B := 256) (by decide) n i
      have h2 := dg_lt (B := 256) (by decide) d i
      have h3 := dg_lt (B := 256) (by decide) (n + d) i
      have HR : Hid (∀ j, j < 40 → (if j = i then dg 256 d i else mixd d (n + d) i j) = mixd d (n + d) (i + 1) j) := fun j _ => mixd_step d (n + d) i j
      have hiw : IntKind.i64.wrap ((i : Int) + 1) = i + 1 := wrapI _ (by omega) (by omega)
      obtain ⟨x, hx⟩ : ∃ x, x = dg 256 d i := ⟨_, rfl⟩
      rw [← hx] at hst h2 HR
      obtain ⟨y, hy⟩ : ∃ y, y = dg 256 n i := ⟨_, rfl⟩
      rw [← hy] at hst h1 cb
      obtain ⟨z, hz⟩ : ∃ z, z = dg 256 (n + d) i := ⟨_, rfl⟩
      rw [← hz] at hst h3 ca
      obtain ⟨c1, hc1⟩ : ∃ c1, c1 = cr n d (i + 1) := ⟨_, rfl⟩
      rw [← hc1] at hst hc2
      have HC1 := hide hc1
      generalize cr n d i = c0 at *
      clear hx hy hz hc1
      have w1 : IntKind.i64.wrap ((y : Int) + (c0 : Int)) = ((y + c0 : Nat) : Int) := by rw [wrapI _ (by omega) (by omega)]; omega
      have LL := hide hlt
      obtain ⟨v, hv⟩ : ∃ v : Int, v = (z : Int) - ((y + c0 : Nat) : Int) := ⟨_, rfl⟩
      have w2 : IntKind.i64.wrap ((z : Int) - ((y + c0 : Nat) : Int)) = v := by rw [wrapI _ (by omega) (by omega)]; omega
      obtain ⟨s, hs⟩ : ∃ s, s = y + c0 := ⟨_, rfl⟩
      rcases Nat.eq_zero_or_pos c1 with hz1 | hz1
      · subst hz1
        have hvx : v = (x : Int) := by omega
        subst hvx
        have t1 : ¬ (x : Int) < 0 := by omega
        rw [← hs] at w1 w2
        clear hlt hi hst hc hc2 h1 h2 h3 hv hs
        have cx : (wr.drew.setCell ⟨w.heap.size, i, none⟩ (.int .i64 (x : Int))).cell? ⟨w.heap.size, i, none⟩ = some (.int .i64 (x : Int)) := (J.out.drew.a.set i x).cell LL.out |>.trans (by simp)
        go_upto_region 5 with fail
        go_region
        go_wp2
        have L4 := LL.out
        exact ⟨⟨i + 1, by omega, by rw [← HC1.out]; rfl, by go_num, hide (J.out.drew.set i x HR.out)⟩, by simp [intOf]; omega⟩
      · have hc11 : c1 = 1 := by omega
        subst hc11
        have t1 : v < 0 := by omega
        have w3 : IntKind.i64.wrap (v + 256) = (x : Int) := by rw [wrapI _ (by omega) (by omega)]; omega
        rw [← hs] at w1 w2
        clear hlt hi hst hc hc2 h1 h2 h3 hv hs hz1
        have cx : (wr.drew.setCell ⟨w.heap.size, i, none⟩ (.int .i64 v)).cell? ⟨w.heap.size, i, none⟩ = some (.int .i64 v) := (World.rowIs.set J.out.drew.a i (.int .i64 v)).cell LL.out |>.trans (by simp)
        have fx : (wr.drew.setCell ⟨w.heap.size, i, none⟩ (.int .i64 v)).frozen? ⟨w.heap.size, i, none⟩ = false := (World.rowIs.set J.out.drew.a i (.int .i64 v)).frozen i
        go_upto_region 5 with fail
        go_region
        go_wp2
        have L4 := LL.out
        exact ⟨⟨i + 1, by omega, by rw [← HC1.out]; rfl, by go_num, hide (J.out.drew.set2 i x _ HR.out)⟩, by simp [intOf]; omega⟩
    · have hke : i = 40 := by omega
      subst hke
      have H2 := (J.out.a.congr (mixd_end d (n + d))).heap
      generalize cr n d 40 = c at *
      go_wp2_with (first | refine wpList_loadA AN rfl _ rfl _ rfl (bn d) (bn_size _) 46 H2 ?_ | refine wpList_storeA AN rfl _ _ rfl _ (bn d) (bn_size _) (bn_one _) rfl rfl (bn 0) (bn_size 0) 46 J.out.r ?_)
      exact bodyPost_ret (v := .agg (bn d)) (resA AN Try.results31 _ _ (w.heap.size + 1 + 1) 46 (bn d) (bn_size _) rfl (setRow_heap _ _ _ _ _ _ J.out.r)) rfl ⟨rfl, below_setRow J.out.bel (by omega) _⟩
end
end Go.Proofs.Ytmfpnlnhebjelaa
