/- The contracts of the document's Times and Over. The contract of the document's Minus. -/
import Derived.Test.YtofddbjnncgmlaaGreatDoorX18
namespace Go.Proofs.YtofddbjnncgmlaaGreatDoor
open Go.RowKit
open Go.Deep
/-- A number that is changed in its place, and an answer's place. -/
structure Bi (w W : World) (f : Nat → Nat) : Prop where
  a : Ni W w.heap.size 180 40 f
  r : W.heap[w.heap.size + 1]? = some (.cells (bn 0) 180 (0, 0))
  bel : Below w.heap.size w W
theorem Bi.start (w : World) (m : Nat) : Bi w ((w.alloc (.cells (bn m) 180)).alloc (.cells (bn 0) 180)) (dg 256 m) :=
  ⟨Ni.of_heap (blk2x w _ _).1, (blk2x w _ _).2, below2x w _ _⟩
section
variable {w W : World} {f : Nat → Nat}
theorem Bi.set (j : Bi w W f) (i x : Nat) {f' : Nat → Nat} (e : ∀ k, k < 40 → (if k = i then x else f k) = f' k) : Bi w (W.setCell ⟨w.heap.size, i, none⟩ (.int .i64 ((x : Nat) : Int))) f' :=
  ⟨(j.a.set i x).congr e, (Below.heap_setCell _ _ _ _ (by simp <;> omega)).trans j.r, j.bel.setCell (Nat.le_refl _) _⟩
theorem Bi.congr (j : Bi w W f) {f' : Nat → Nat} (e : ∀ k, k < 40 → f k = f' k) : Bi w W f' := ⟨j.a.congr e, j.r, j.bel⟩
end
theorem w64n (x : Nat) (h : x < 9223372036854775808) : wrap64 (x : Int) = (x : Int) := by
  unfold wrap64
  omega
/-- A product by a small number, digit by digit: the carry behind i digits. -/
def tcT (m n i : Nat) : Nat := m % 256 ^ i * n / 256 ^ i
theorem tc_zero (m n : Nat) : tcT m n 0 = 0 := by simp [tcT, Nat.mod_one]
theorem tc_step (m n i : Nat) : (tcT m n i + dg 256 m i * n) % 256 = dg 256 (m * n) i ∧ (tcT m n i + dg 256 m i * n) / 256 = tcT m n (i + 1) := by
  have hP : 0 < 256 ^ i := Nat.pow_pos (by decide)
  have e : (m % 256 ^ i + dg 256 m i * 256 ^ i) * n / 256 ^ i = tcT m n i + dg 256 m i * n := by
    rw [Nat.add_mul, Nat.mul_right_comm, Nat.add_mul_div_right _ _ hP]
    rfl
  rw [← e, ← mod_next]
  constructor
  · have h1 : m % 256 ^ (i + 1) * n % 256 ^ (i + 1) = m * n % 256 ^ (i + 1) := Nat.mod_mul_mod ..
    rw [show m % 256 ^ (i + 1) * n / 256 ^ i % 256 = dg 256 (m % 256 ^ (i + 1) * n) i from rfl, ← dg_mod 256 (m % 256 ^ (i + 1) * n) (i + 1) i (by omega), h1, dg_mod 256 _ (i + 1) i (by omega)]
  · rw [Nat.div_div_eq_div_mul, ← Nat.pow_succ]
    rfl
theorem tc_le (m n i : Nat) : tcT m n i ≤ n := by
  unfold tcT
  have hP : 0 < 256 ^ i := Nat.pow_pos (by decide)
  have := Nat.mod_lt m hP
  apply Nat.div_le_of_le_mul
  exact Nat.mul_le_mul_right n (by omega)
/-- The digits below i of one number, those from i on of another. -/
def mixd (x y i j : Nat) : Nat := if j < i then dg 256 x j else dg 256 y j
theorem mixd_zero (x y j : Nat) : dg 256 y j = mixd x y 0 j := by rw [mixd, if_neg (by omega)]
theorem mixd_at (x y i : Nat) : mixd x y i i = dg 256 y i := by rw [mixd, if_neg (by omega)]
theorem mixd_step (x y i j : Nat) : (if j = i then dg 256 x i else mixd x y i j) = mixd x y (i + 1) j := by
  unfold mixd
  by_cases e : j = i
  · rw [if_pos e, if_pos (by omega), e]
  · rw [if_neg e]
    by_cases e2 : j < i
    · rw [if_pos e2, if_pos (by omega)]
    · rw [if_neg e2, if_neg (by omega)]
theorem mixd_end (x y j : Nat) (h : j < 40) : mixd x y 40 j = dg 256 x j := by rw [mixd, if_pos h]
section
set_option maxRecDepth 10000
set_option maxHeartbeats 2000000
theorem times_any (m n : Nat) (hn : n ≤ 1000000) (w : World) : Calls Tryz.prog 179 #[.agg (bn m), .int .i64 (n : Int)] w fun e w' => e = .returned (.agg (bn (m * n))) ∧ Below w.heap.size w w' := by
  have J0 := hide ((Bi.start w m).congr (fun j _ => mixd_zero (m * n) m j))
  have HN := hide hn
  clear hn
  go_enter Tryz.func179, Tryz.ntmps179
  go_wp2_with (first | refine wpList_boxA rfl _ rfl (bn m) rfl ?_ | refine wpList_allocA AN rfl rfl ?_)
  generalize (w.alloc (.cells (bn m) 180)).alloc (.cells (bn 0) 180) = W0 at *
  go_loopw [5, 6] (fun c d wr => ∃ i : Nat, i ≤ 40 ∧ c = .int .i64 ((tcT m n i : Nat) : Int) ∧ d = .int .i64 i ∧ Hid (Bi w wr (mixd (m * n) m i))) (fun _ d _ => (40 - intOf d).toNat)
  case atStart => exact ⟨0, by omega, by rw [tc_zero]; rfl, rfl, J0⟩
  case round =>
    clear J0
    obtain ⟨i, hi, rfl, rfl, J⟩ := hrel
    by_cases hlt : i < 40
    · have hi4 : (i : Int) < 40 := by omega
      have i0 : (0 : Int) ≤ i := by omega
      have ca := J.out.a.cell hlt
      rw [mixd_at] at ca
      have fa := J.out.a.fz i
      obtain ⟨t1, t2⟩ := tc_step m n i
      have hn := HN.out
      have hc := tc_le m n i
      have hc2 := tc_le m n (i + 1)
      have hd := dg_lt (B := 256) (by decide) m i
      have hd2 := dg_lt (B := 256) (by decide) (m * n) i
      have HR : Hid (∀ j, j < 40 → (if j = i then dg 256 (m * n) i else mixd (m * n) m i j) = mixd (m * n) m (i + 1) j) := fun j _ => mixd_step (m * n) m i j
      obtain ⟨x, hx⟩ : ∃ x, x = dg 256 (m * n) i := ⟨_, rfl⟩
      rw [← hx] at t1 hd2 HR
      obtain ⟨c1, hc1⟩ : ∃ x, x = tcT m n (i + 1) := ⟨_, rfl⟩
      rw [← hc1] at t2 hc2
      have HC1 := hide hc1
      obtain ⟨d0, hd0⟩ : ∃ x, x = dg 256 m i := ⟨_, rfl⟩
      rw [← hd0] at t1 t2 hd ca
      generalize tcT m n i = c0 at *
      clear hx hc1 hd0
      have hp : d0 * n ≤ 255 * 1000000 := Nat.mul_le_mul (by omega) hn
      obtain ⟨p, hpe⟩ : ∃ p, p = d0 * n := ⟨_, rfl⟩
      have w1 : IntKind.i64.wrap ((d0 : Int) * (n : Int)) = (p : Int) := by
        rw [← Int.natCast_mul, ← hpe]
        exact wrapI _ (by omega) (by omega)
      rw [← hpe] at hp t1 t2
      clear hpe
      have w2 : IntKind.i64.wrap ((c0 : Int) + (p : Int)) = ((c0 + p : Nat) : Int) := by
        rw [← Int.natCast_add]
        exact wrapI _ (by omega) (by omega)
      obtain ⟨s, hs⟩ : ∃ s, s = c0 + p := ⟨_, rfl⟩
      rw [← hs] at w2 t1 t2
      have q1 : c1 < 9223372036854775808 := by omega
      have q2 : x < 9223372036854775808 := by omega
      have v6 : IntKind.i64.wrap (c1 : Int) = (c1 : Int) := wrapI _ (by omega) (by omega)
      have v8 : IntKind.i64.wrap (x : Int) = (x : Int) := wrapI _ (by omega) (by omega)
      have hiw : IntKind.i64.wrap ((i : Int) + 1) = i + 1 := wrapI _ (by omega) (by omega)
      have v1 : (s : Int) % 256 = (x : Int) := by omega
      have v3 : (s : Int) / 256 = (c1 : Int) := by omega
      have v2 : Int.tmod (s : Int) 256 = (x : Int) := by rw [Int.tmod_eq_emod_of_nonneg (Int.natCast_nonneg _)]; exact v1
      have v4 : Int.tdiv (s : Int) 256 = (c1 : Int) := by rw [Int.tdiv_eq_ediv_of_nonneg (Int.natCast_nonneg _)]; exact v3
      have LL := hide hlt
      have v5 := w64n c1 q1
      have v7 := w64n x q2
      clear hlt hi hn hc hd hp hc2 hd2 t1 t2 hs q1 q2
      go_wp2
      have L4 := LL.out
      exact ⟨⟨i + 1, by omega, by rw [← HC1.out], by go_num, hide (J.out.set i x HR.out)⟩, by simp [intOf]; omega⟩
    · have hke : i = 40 := by omega
      subst hke
      have H2 := (J.out.a.congr (mixd_end (m * n) m)).heap
      generalize tcT m n 40 = c at *
      go_wp2_with (first | refine wpList_loadA AN rfl _ rfl _ rfl (bn (m * n)) (bn_size _) 180 H2 ?_ | refine wpList_storeA AN rfl _ _ rfl _ (bn (m * n)) (bn_size _) (bn_one _) rfl rfl (bn 0) (bn_size 0) 180 J.out.r ?_)
      exact bodyPost_ret (v := .agg (bn (m * n))) (resA AN Tryz.results179 _ _ (w.heap.size + 1) 180 (bn (m * n)) (bn_size _) rfl (setRow_heap _ _ _ _ _ _ J.out.r)) rfl ⟨rfl, below_setRow J.out.bel (by omega) _⟩
end
end Go.Proofs.YtofddbjnncgmlaaGreatDoor
namespace Go.Proofs.YtofddbjnncgmlaaGreatDoor
open Go.RowKit
open Go.Deep
/-- The carry into the digit i of a sum. -/
def cr (n d i : Nat) : Nat := (n % 256 ^ i + d % 256 ^ i) / 256 ^ i
theorem cr_zero (n d : Nat) : cr n d 0 = 0 := by simp [cr, Nat.mod_one]
theorem cr_le (n d i : Nat) : cr n d i ≤ 1 := by
  unfold cr
  have hP : 0 < 256 ^ i := Nat.pow_pos (by decide)
  have h1 := Nat.mod_lt n hP
  have h2 := Nat.mod_lt d hP
  have : (n % 256 ^ i + d % 256 ^ i) / 256 ^ i < 2 := Nat.div_lt_of_lt_mul (by omega)
  omega
theorem cr_step (n d i : Nat) : dg 256 (n + d) i + 256 * cr n d (i + 1) = dg 256 n i + dg 256 d i + cr n d i := by
  have hP : 0 < 256 ^ i := Nat.pow_pos (by decide)
  have hS : (n % 256 ^ (i + 1) + d % 256 ^ (i + 1)) / 256 ^ i = dg 256 n i + dg 256 d i + cr n d i := by
    rw [Nat.pow_succ, Nat.mod_mul, Nat.mod_mul]
    unfold dg cr
    rw [show n % 256 ^ i + 256 ^ i * (n / 256 ^ i % 256) + (d % 256 ^ i + 256 ^ i * (d / 256 ^ i % 256)) = n % 256 ^ i + d % 256 ^ i + 256 ^ i * (n / 256 ^ i % 256 + d / 256 ^ i % 256) by rw [Nat.mul_add]; omega, Nat.add_mul_div_left _ _ hP]
    omega
  have h1 : cr n d (i + 1) = (n % 256 ^ (i + 1) + d % 256 ^ (i + 1)) / 256 ^ i / 256 := by
    rw [Nat.div_div_eq_div_mul, ← Nat.pow_succ]
    rfl
  have h2 : dg 256 (n + d) i = (n % 256 ^ (i + 1) + d % 256 ^ (i + 1)) / 256 ^ i % 256 := by
    unfold dg
    have e : ∀ X : Nat, X / 256 ^ i % 256 = X % 256 ^ (i + 1) / 256 ^ i := fun X => by rw [Nat.pow_succ, Nat.mod_mul_right_div_self]
    rw [e, e (n % 256 ^ (i + 1) + d % 256 ^ (i + 1)), ← Nat.add_mod]
  rw [h1, h2, hS]
  omega
/-- A number that is changed in its place, another one, and an answer's place. -/
structure Mi (w W : World) (n : Nat) (f : Nat → Nat) : Prop where
  a : Ni W w.heap.size 180 40 f
  b : Ni W (w.heap.size + 1) 180 40 (dg 256 n)
  r : W.heap[w.heap.size + 1 + 1]? = some (.cells (bn 0) 180 (0, 0))
  bel : Below w.heap.size w W
theorem Mi.start (w : World) (m n : Nat) : Mi w (((w.alloc (.cells (bn m) 180)).alloc (.cells (bn n) 180)).alloc (.cells (bn 0) 180)) n (dg 256 m) := by
  obtain ⟨e1, e2, e3⟩ := blk3 w (.cells (bn m) 180) (.cells (bn n) 180) (.cells (bn 0) 180)
  exact ⟨Ni.of_heap e1, Ni.of_heap e2, e3, below3 w _ _ _⟩
section
variable {w W : World} {n : Nat} {f : Nat → Nat}
theorem Mi.set (j : Mi w W n f) (i x : Nat) {f' : Nat → Nat} (e : ∀ k, k < 40 → (if k = i then x else f k) = f' k) : Mi w (W.setCell ⟨w.heap.size, i, none⟩ (.int .i64 ((x : Nat) : Int))) n f' :=
  ⟨(j.a.set i x).congr e, j.b.other (by omega) _ _, (Below.heap_setCell _ _ _ _ (by simp <;> omega)).trans j.r, j.bel.setCell (Nat.le_refl _) _⟩
theorem Mi.set2 (j : Mi w W n f) (i x : Nat) (v : Value) {f' : Nat → Nat} (e : ∀ k, k < 40 → (if k = i then x else f k) = f' k) : Mi w ((W.setCell ⟨w.heap.size, i, none⟩ v).setCell ⟨w.heap.size, i, none⟩ (.int .i64 ((x : Nat) : Int))) n f' := by
  refine ⟨(World.rowIs.set (World.rowIs.set j.a i v) i _).congr (fun k hk => ?_), (j.b.other (by omega) _ _).other (by omega) _ _, (Below.heap_setCell _ _ _ _ (by simp <;> omega)).trans ((Below.heap_setCell _ _ _ _ (by simp <;> omega)).trans j.r), (j.bel.setCell (Nat.le_refl _) _).setCell (Nat.le_refl _) _⟩
  rw [← e k hk]
  by_cases h : k = i <;> simp [h]
theorem Mi.congr (j : Mi w W n f) {f' : Nat → Nat} (e : ∀ k, k < 40 → f k = f' k) : Mi w W n f' := ⟨j.a.congr e, j.b, j.r, j.bel⟩
theorem Mi.drew (j : Mi w W n f) : Mi w W.drew n f := ⟨j.a, j.b, j.r, j.bel.drew⟩
end
section
set_option maxRecDepth 10000
set_option maxHeartbeats 4000000
theorem minus_any (n d : Nat) (w : World) : Calls Tryz.prog 181 #[.agg (bn (n + d)), .agg (bn n)] w fun e w' => e = .returned (.agg (bn d)) ∧ Below w.heap.size w w' := by
  have J0 := hide ((Mi.start w (n + d) n).congr (fun j _ => mixd_zero d (n + d) j))
  go_enter Tryz.func181, Tryz.ntmps181
  go_wp2_with (first | refine wpList_boxA rfl _ rfl (bn (n + d)) rfl ?_ | refine wpList_boxA rfl _ rfl (bn n) rfl ?_ | refine wpList_allocA AN rfl rfl ?_)
  generalize ((w.alloc (.cells (bn (n + d)) 180)).alloc (.cells (bn n) 180)).alloc (.cells (bn 0) 180) = W0 at *
  go_loopw [5, 6] (fun c e wr => ∃ i : Nat, i ≤ 40 ∧ c = .int .i64 ((cr n d i : Nat) : Int) ∧ e = .int .i64 i ∧ Hid (Mi w wr n (mixd d (n + d) i))) (fun _ e _ => (40 - intOf e).toNat)
  case atStart => exact ⟨0, by omega, by rw [cr_zero]; rfl, rfl, J0⟩
  case round =>
    clear J0
    obtain ⟨i, hi, rfl, rfl, J⟩ := hrel
    by_cases hlt : i < 40
    · have hi4 : (i : Int) < 40 := by omega
      have i0 : (0 : Int) ≤ i := by omega
      have ca := J.out.a.cell hlt
      rw [mixd_at] at ca
      have fa := J.out.a.fz i
      have cb := J.out.b.cell hlt
      have hst := cr_step n d i
      have hc := cr_le n d i
      have hc2 := cr_le n d (i + 1)
      have h1 := dg_lt (B := 256) (by decide) n i
      have h2 := dg_lt (B := 256) (by decide) d i
      have h3 := dg_lt (B := 256) (by decide) (n + d) i
      have HR : Hid (∀ j, j < 40 → (if j = i then dg 256 d i else mixd d (n + d) i j) = mixd d (n + d) (i + 1) j) := fun j _ => mixd_step d (n + d) i j
      have hiw : IntKind.i64.wrap ((i : Int) + 1) = i + 1 := wrapI _ (by omega) (by omega)
      obtain ⟨x, hx⟩ : ∃ x, x = dg 256 d i := ⟨_, rfl⟩
      rw [← hx] at hst h2 HR
      obtain ⟨y, hy⟩ : ∃ y, y = dg 256 n i := ⟨_, rfl⟩
      rw [← hy] at hst h1 cb
      obtain ⟨z, hz⟩ : ∃ z, z = dg 256 (n + d) i := ⟨_, rfl⟩
      rw [← hz] at hst h3 ca
      obtain ⟨c1, hc1⟩ : ∃ c1, c1 = cr n d (i + 1) := ⟨_, rfl⟩
      rw [← hc1] at hst hc2
      have HC1 := hide hc1
      generalize cr n d i = c0 at *
      clear hx hy hz hc1
      have w1 : IntKind.i64.wrap ((y : Int) + (c0 : Int)) = ((y + c0 : Nat) : Int) := by rw [wrapI _ (by omega) (by omega)]; omega
      have LL := hide hlt
      obtain ⟨v, hv⟩ : ∃ v : Int, v = (z : Int) - ((y + c0 : Nat) : Int) := ⟨_, rfl⟩
      have w2 : IntKind.i64.wrap ((z : Int) - ((y + c0 : Nat) : Int)) = v := by rw [wrapI _ (by omega) (by omega)]; omega
      obtain ⟨s, hs⟩ : ∃ s, s = y + c0 := ⟨_, rfl⟩
      rcases Nat.eq_zero_or_pos c1 with hz1 | hz1
      · subst hz1
        have hvx : v = (x : Int) := by omega
        subst hvx
        have t1 : ¬ (x : Int) < 0 := by omega
        rw [← hs] at w1 w2
        clear hlt hi hst hc hc2 h1 h2 h3 hv hs
        have cx : (wr.drew.setCell ⟨w.heap.size, i, none⟩ (.int .i64 (x : Int))).cell? ⟨w.heap.size, i, none⟩ = some (.int .i64 (x : Int)) := (J.out.drew.a.set i x).cell LL.out |>.trans (by simp)
        go_upto_region 5 with fail
        go_region
        go_wp2
        have L4 := LL.out
        exact ⟨⟨i + 1, by omega, by rw [← HC1.out]; rfl, by go_num, hide (J.out.drew.set i x HR.out)⟩, by simp [intOf]; omega⟩
      · have hc11 : c1 = 1 := by omega
        subst hc11
        have t1 : v < 0 := by omega
        have w3 : IntKind.i64.wrap (v + 256) = (x : Int) := by rw [wrapI _ (by omega) (by omega)]; omega
        rw [← hs] at w1 w2
        clear hlt hi hst hc hc2 h1 h2 h3 hv hs hz1
        have cx : (wr.drew.setCell ⟨w.heap.size, i, none⟩ (.int .i64 v)).cell? ⟨w.heap.size, i, none⟩ = some (.int .i64 v) := (World.rowIs.set J.out.drew.a i (.int .i64 v)).cell LL.out |>.trans (by simp)
        have fx : (wr.drew.setCell ⟨w.heap.size, i, none⟩ (.int .i64 v)).frozen? ⟨w.heap.size, i, none⟩ = false := (World.rowIs.set J.out.drew.a i (.int .i64 v)).frozen i
        go_upto_region 5 with fail
        go_region
        go_wp2
        have L4 := LL.out
        exact ⟨⟨i + 1, by omega, by rw [← HC1.out]; rfl, by go_num, hide (J.out.drew.set2 i x _ HR.out)⟩, by simp [intOf]; omega⟩
    · have hke : i = 40 := by omega
      subst hke
      have H2 := (J.out.a.congr (mixd_end d (n + d))).heap
      generalize cr n d 40 = c at *
      go_wp2_with (first | refine wpList_loadA AN rfl _ rfl _ rfl (bn d) (bn_size _) 180 H2 ?_ | refine wpList_storeA AN rfl _ _ rfl _ (bn d) (bn_size _) (bn_one _) rfl rfl (bn 0) (bn_size 0) 180 J.out.r ?_)
      exact bodyPost_ret (v := .agg (bn d)) (resA AN Tryz.results181 _ _ (w.heap.size + 1 + 1) 180 (bn d) (bn_size _) rfl (setRow_heap _ _ _ _ _ _ J.out.r)) rfl ⟨rfl, below_setRow J.out.bel (by omega) _⟩
end
end Go.Proofs.YtofddbjnncgmlaaGreatDoor
