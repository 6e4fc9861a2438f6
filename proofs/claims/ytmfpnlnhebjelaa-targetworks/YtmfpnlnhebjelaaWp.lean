/- The contract of wide.Mul. -/
import Derived.Test.YtmfpnlnhebjelaaWo
namespace Go.Proofs.Ytmfpnlnhebjelaa
open Go.RowKit
open Go.Deep
/-- What is known in the inner loop of a product. -/
structure In (B i k a n c : Nat) (f g : Nat → Nat) : Prop where
  eq : vs B f (i + k) + c * B ^ (i + k) = vs B g (i + k) + a * (n % B ^ k) * B ^ i
  hc : c < B
  same : ∀ j, i + k ≤ j → f j = g j
  lt : ∀ j, f j < B
theorem In.start {B i a n : Nat} {g : Nat → Nat} (h0 : 0 < B) (h : ∀ j, g j < B) : In B i 0 a n 0 g g :=
  ⟨by simp [Nat.mod_one], h0, fun _ _ => rfl, h⟩
theorem In.next {B i k a n c : Nat} {f g : Nat → Nat} (h : In B i k a n c f g) (s : Nat) (hs : s = a * dg B n k + f (i + k) + c) (hlt : s / B < B) : In B i (k + 1) a n (s / B) (fun j => if j = i + k then s % B else f j) g := by
  have h0 : 0 < B := Nat.lt_of_le_of_lt (Nat.zero_le _) h.hc
  refine ⟨?_, hlt, fun j hj => ?_, fun j => ?_⟩
  · refine mul_step B f _ g i k a n c s h.eq ?_ (fun j hj => if_neg (by omega)) (if_pos rfl)
    rw [hs, h.same (i + k) (Nat.le_refl _)]
    omega
  · rw [if_neg (by omega)]
    exact h.same j (by omega)
  · split
    · exact Nat.mod_lt _ h0
    · exact h.lt j
/-- What is known in the outer loop of a product. -/
structure Ou (B i N m n : Nat) (f : Nat → Nat) : Prop where
  eq : vs B f (i + N) = m % B ^ i * n
  lt : ∀ j, f j < B
theorem vs_zero (B : Nat) : ∀ k, vs B (fun _ => 0) k = 0
  | 0 => rfl
  | k + 1 => by rw [vs, vs_zero B k]; simp
theorem Ou.start {B N m n : Nat} (h0 : 0 < B) : Ou B 0 N m n (fun _ => 0) := ⟨by rw [vs_zero]; simp [Nat.mod_one], fun _ => h0⟩
theorem Ou.next {B i N m n c : Nat} {f g : Nat → Nat} (h : Ou B i N m n g) (hn : n < B ^ N) (hi : In B i N (dg B m i) n c f g) : Ou B (i + 1) N m n (fun j => if j = i + N then c else f j) := by
  refine ⟨mul_row B f _ g i N m n c hn h.eq hi.eq (fun j hj => if_neg (by omega)) (if_pos rfl), fun j => ?_⟩
  split
  · exact hi.hc
  · exact hi.lt j
theorem Ou.end {B N m n : Nat} {f : Nat → Nat} (h : Ou B N N m n f) (hm : m < B ^ N) (j : Nat) (hj : j < N + N) : f j = dg B (m * n) j := by
  have e := h.eq
  rw [Nat.mod_eq_of_lt hm] at e
  rw [← e]
  exact (dg_vs (fun i _ => h.lt i) j hj).symm
theorem dg_up (B n j k : Nat) : dg B n (j + k) = dg B (n / B ^ k) j := by
  unfold dg
  rw [Nat.div_div_eq_div_mul, Nat.pow_add, Nat.mul_comm]
theorem A8 : Arr 100 8 (nc 8 (fun _ => 0)) := ⟨.inl ⟨_, _, Try.underlying100⟩, by kernel_rfl, fun w => by kernel_rfl, fun w => by kernel_rfl, nc_size 8 _⟩
/-- Two numbers, the places of two answers, and a row. -/
structure Mu (w W : World) (t u : TypeId) (k m n : Nat) (f : Nat → Nat) : Prop where
  a : Nd W w.heap.size t 4 (wd m)
  b : Nd W (w.heap.size + 1) t 4 (wd n)
  r : W.heap[w.heap.size + 1 + 1]? = some (.cells (wn 0) t (0, 0))
  s : W.heap[w.heap.size + 1 + 1 + 1]? = some (.cells (wn 0) t (0, 0))
  o : Nd W (w.heap.size + 1 + 1 + 1 + 1) u k f
  bel : Below w.heap.size w W
theorem Mu.start (w : World) (t u : TypeId) (k m n : Nat) (f : Nat → Nat) : Mu w (((((w.alloc (.cells (wn m) t)).alloc (.cells (wn n) t)).alloc (.cells (wn 0) t)).alloc (.cells (wn 0) t)).alloc (.cells (nc k f) u)) t u k m n f := by
  obtain ⟨e1, e2, e3, e4⟩ := blk4 w (.cells (wn m) t) (.cells (wn n) t) (.cells (wn 0) t) (.cells (wn 0) t)
  have b4 := below4 w (.cells (wn m) t) (.cells (wn n) t) (.cells (wn 0) t) (.cells (wn 0) t)
  have hs : ((((w.alloc (.cells (wn m) t)).alloc (.cells (wn n) t)).alloc (.cells (wn 0) t)).alloc (.cells (wn 0) t)).heap.size = w.heap.size + 1 + 1 + 1 + 1 := by simp
  have e5 := heap_alloc_last ((((w.alloc (.cells (wn m) t)).alloc (.cells (wn n) t)).alloc (.cells (wn 0) t)).alloc (.cells (wn 0) t)) (.cells (nc k f) u)
  rw [hs] at e5
  exact ⟨Nd.of_heap ((Below.heap_alloc _ _ _ (lt_heap e1)).trans e1), Nd.of_heap ((Below.heap_alloc _ _ _ (lt_heap e2)).trans e2), (Below.heap_alloc _ _ _ (lt_heap e3)).trans e3, (Below.heap_alloc _ _ _ (lt_heap e4)).trans e4, Nd.of_heap e5, b4.alloc (by simp; omega) _⟩
theorem Mu.set {w W : World} {t u : TypeId} {k m n : Nat} {f : Nat → Nat} (j : Mu w W t u k m n f) (i x : Nat) : Mu w (W.setCell ⟨w.heap.size + 1 + 1 + 1 + 1, i, none⟩ (.int .u64 ((x : Nat) : Int))) t u k m n (fun k => if k = i then x else f k) :=
  ⟨j.a.other (by omega) _ _, j.b.other (by omega) _ _, (Below.heap_setCell _ _ _ _ (by simp)).trans j.r, (Below.heap_setCell _ _ _ _ (by simp)).trans j.s, j.o.set i x, j.bel.setCell (by simp; omega) _⟩
theorem Mu.drew {w W : World} {t u : TypeId} {k m n : Nat} {f : Nat → Nat} (j : Mu w W t u k m n f) : Mu w W.drew t u k m n f := ⟨j.a, j.b, j.r, j.s, j.o, j.bel.drew⟩
theorem Mu.two {w W : World} {t u : TypeId} {k m n : Nat} {f : Nat → Nat} (j : Mu w W t u k m n f) (c d : Array Value) : ((W.setRow (w.heap.size + 1 + 1) c).setRow (w.heap.size + 1 + 1 + 1) d).heap[w.heap.size + 1 + 1]? = some (.cells c t (0, 0)) ∧ ((W.setRow (w.heap.size + 1 + 1) c).setRow (w.heap.size + 1 + 1 + 1) d).heap[w.heap.size + 1 + 1 + 1]? = some (.cells d t (0, 0)) ∧ Below w.heap.size w ((W.setRow (w.heap.size + 1 + 1) c).setRow (w.heap.size + 1 + 1 + 1) d) := by
  refine ⟨(setRow_other _ _ _ _ (by omega)).trans (setRow_heap _ _ _ _ _ _ j.r), setRow_heap _ _ _ _ _ _ ((setRow_other _ _ _ _ (by omega)).trans j.s), below_setRow (below_setRow j.bel (by omega) _) (by omega) _⟩
def bdW (x : Array (Nat × Value)) : Sem Value := Instr.build 24 x
theorem bdW_eq (x : Array (Nat × Value)) : Instr.build 24 x = bdW x := rfl
theorem bdW_run (n : Nat) (w : World) : (bdW #[(0, .int .u64 ((wd n 0 : Nat) : Int)), (1, .int .u64 ((wd n 1 : Nat) : Int)), (2, .int .u64 ((wd n 2 : Nat) : Int)), (3, .int .u64 ((wd n 3 : Nat) : Int))]).run Try.prog w = .ok (.agg (wn n)) w := by
  rw [wn_four]
  generalize wd n 0 = a
  generalize wd n 1 = b
  generalize wd n 2 = c
  generalize wd n 3 = d
  kernel_rfl
attribute [local go_sem ↓] ldW_eq svW_eq bdW_eq
section
set_option maxRecDepth 10000
set_option maxHeartbeats 4000000
theorem mul_any (m n : Nat) (hm : m < M) (hn : n < M) (w : World) : Calls Try.prog 59 #[.agg (wn m), .agg (wn n)] w fun e w' => e = .returned (.tuple #[.agg (wn (m * n)), .agg (wn (m * n / M))]) ∧ Below w.heap.size w w' := by
  have J0 := hide (Mu.start w 24 100 8 m n (fun _ => 0))
  have O0 := hide (Ou.start (B := 18446744073709551616) (N := 4) (m := m) (n := n) (by decide))
  have HM := hide (And.intro hm hn)
  have a0 := hide J0.out.a.heap
  clear hm hn
  go_enter Try.func59, Try.ntmps59
  go_upto_region 2 with (first | refine wpList_boxA rfl _ rfl (wn m) rfl ?_ | refine wpList_boxA rfl _ rfl (wn n) rfl ?_ | refine wpList_allocA AW rfl rfl ?_ | refine wpList_allocA A8 rfl rfl ?_)
  generalize ((((w.alloc (.cells (wn m) 24)).alloc (.cells (wn n) 24)).alloc (.cells (wn 0) 24)).alloc (.cells (wn 0) 24)).alloc (.cells (nc 8 (fun _ => 0)) 100) = W0 at *
  go_wp2_with (refine wpList_loadA AW rfl _ rfl _ rfl (wn m) (wn_size _) 24 a0.out ?_)
  go_loopw [7, 8, 9, 10, 11, 13] (fun _ _ _ _ _ c wr => ∃ (i : Nat) (f : Nat → Nat), i ≤ 4 ∧ c = .int .i64 i ∧ Hid (Mu w wr 24 100 8 m n f) ∧ Hid (Ou 18446744073709551616 i 4 m n f)) (fun _ _ _ _ _ c _ => (4 - intOf c).toNat)
  case atStart => exact ⟨0, _, by omega, rfl, J0, O0⟩
  case round =>
    clear J0 O0 a0
    obtain ⟨i, g, hi, rfl, J, O⟩ := hrel
    by_cases hlt : i < 4
    · have hi4 : (i : Int) < 4 := by omega
      have hi0 : (0 : Int) ≤ i := by omega
      have b0 := hide J.out.b.heap
      go_wp2_with (first | refine wpList_indexW rfl _ _ rfl m i rfl rfl hlt ?_ | refine wpList_loadA AW rfl _ rfl _ rfl (wn n) (wn_size _) 24 b0.out ?_)
      have I0 := hide (In.start (B := 18446744073709551616) (i := i) (a := wd m i) (n := n) (by decide) O.out.lt)
      clear b0
      go_loopw [9, 10, 11, 18] (fun c _ _ d wr => ∃ (k cc : Nat) (f : Nat → Nat), k ≤ 4 ∧ c = .int .u64 (cc : Int) ∧ d = .int .i64 k ∧ Hid (Mu w wr 24 100 8 m n f) ∧ Hid (In 18446744073709551616 i k (wd m i) n cc f g)) (fun _ _ _ d _ => (4 - intOf d).toNat)
      case atStart => exact ⟨0, 0, _, by omega, rfl, rfl, J, I0⟩
      case round =>
        clear J I0
        obtain ⟨k, cc, f, hk, rfl, rfl, J, IN⟩ := hrel
        by_cases hlk : k < 4
        · have hk4 : (k : Int) < 4 := by omega
          have hk0 : (0 : Int) ≤ k := by omega
          have hik : IntKind.i64.wrap ((i : Int) + k) = ((i + k : Nat) : Int) := by rw [wrapI _ (by omega) (by omega)]; omega
          have h8 : ((i + k : Nat) : Int) < 8 := by omega
          have h80 : (0 : Int) ≤ ((i + k : Nat) : Int) := by omega
          have HA := hide fun W => mulAdd_any (wd m i) (wd n k) (f (i + k)) cc (wd_lt _ _) (wd_lt _ _) (IN.out.lt _) IN.out.hc W
          have hov := (mulAdd_arith (wd m i) (wd n k) (f (i + k)) cc (wd_lt _ _) (wd_lt _ _) (IN.out.lt _) IN.out.hc).2.2
          have I1 := hide (IN.out.next (wd m i * wd n k + f (i + k) + cc) rfl hov)
          clear hov
          have ho := J.out.o.cell (show i + k < 8 by omega)
          have hf := J.out.o.fz (i + k)
          have hkw : IntKind.i64.wrap ((k : Int) + 1) = k + 1 := wrapI _ (by omega) (by omega)
          obtain ⟨q, hq⟩ : ∃ q, q = i + k := ⟨_, rfl⟩
          rw [← hq] at hik h8 h80 HA I1 ho hf
          obtain ⟨c1, hc1⟩ : ∃ z, z = (wd m i * wd n k + f q + cc) / 18446744073709551616 := ⟨_, rfl⟩
          obtain ⟨l1, hl1⟩ : ∃ z, z = (wd m i * wd n k + f q + cc) % 18446744073709551616 := ⟨_, rfl⟩
          rw [← hc1] at I1
          rw [← hl1] at I1
          rw [← hc1, ← hl1] at HA
          clear hq hc1 hl1
          go_wp2_with (first | refine wpList_indexW rfl _ _ rfl n k rfl rfl hlk ?_ | (go_at_call 70; refine (HA.out _).mono ?_; rintro e w3 ⟨rfl, hw3⟩; subst w3))
          exact ⟨⟨k + 1, c1, _, by omega, rfl, by go_num, hide (J.out.set q l1), I1⟩, by simp [intOf]; omega⟩
        · have hke : k = 4 := by omega
          subst hke
          have O1 := hide (O.out.next (by rw [← M_eq]; exact HM.out.2) IN.out)
          have ho := J.out.o.cell (show i + 4 < 8 by omega)
          have hf := J.out.o.fz (i + 4)
          have hik : IntKind.i64.wrap ((i : Int) + 4) = ((i + 4 : Nat) : Int) := by rw [wrapI _ (by omega) (by omega)]; omega
          have h8 : ((i + 4 : Nat) : Int) < 8 := by omega
          have h80 : (0 : Int) ≤ ((i + 4 : Nat) : Int) := by omega
          have hkw : IntKind.i64.wrap ((i : Int) + 1) = i + 1 := wrapI _ (by omega) (by omega)
          obtain ⟨q, hq⟩ : ∃ q, q = i + 4 := ⟨_, rfl⟩
          rw [← hq] at hik h8 h80 ho hf O1
          clear hq
          go_wp2
          exact ⟨⟨i + 1, _, by omega, by go_num, hide (J.out.set q cc), O1⟩, by simp [intOf]; omega⟩
    · have hke : i = 4 := by omega
      subst hke
      have hE : ∀ j, j < 8 → g j = dg 18446744073709551616 (m * n) j := fun j hj => O.out.end (by rw [← M_eq]; exact HM.out.1) j hj
      have lo : ∀ j, j < 4 → wr.drew.cell? ⟨w.heap.size + 1 + 1 + 1 + 1, j, none⟩ = some (.int .u64 ((wd (m * n) j : Nat) : Int)) := fun j hj => by
        have := J.out.o.cell (i := j) (by omega)
        rw [hE j (by omega)] at this
        exact this
      have hi : ∀ j, j < 4 → wr.drew.cell? ⟨w.heap.size + 1 + 1 + 1 + 1, j + 4, none⟩ = some (.int .u64 ((wd (m * n / M) j : Nat) : Int)) := fun j hj => by
        have := J.out.o.cell (i := j + 4) (by omega)
        rw [hE (j + 4) (by omega), dg_up, ← M_eq] at this
        exact this
      have l0 := lo 0 (by omega)
      have l1 := lo 1 (by omega)
      have l2 := lo 2 (by omega)
      have l3 := lo 3 (by omega)
      have l4 := hi 0 (by omega)
      have l5 := hi 1 (by omega)
      have l6 := hi 2 (by omega)
      have l7 := hi 3 (by omega)
      rw [Nat.zero_add] at l4
      rw [show 1 + 4 = 5 from rfl] at l5
      rw [show 2 + 4 = 6 from rfl] at l6
      rw [show 3 + 4 = 7 from rfl] at l7
      have B1 := fun W => bdW_run (m * n) W
      have B2 := fun W => bdW_run (m * n / M) W
      have J1 := hide J.out.drew
      have s1 := svW_row J1.out.r (m * n)
      have s2 := svW_row (w := wr.drew.setRow (w.heap.size + 1 + 1) (wn (m * n))) ((setRow_other _ _ _ _ (by omega)).trans J1.out.s) (m * n / M)
      have up := fun j => fun (hj : j < 4) => show (wr.drew.setRow (w.heap.size + 1 + 1) (wn (m * n))).cell? ⟨w.heap.size + 1 + 1 + 1 + 1, j + 4, none⟩ = some (.int .u64 ((wd (m * n / M) j : Nat) : Int)) by
        have := (J1.out.o.row (b := w.heap.size + 1 + 1) (by omega) (wn (m * n))).cell (i := j + 4) (by omega)
        rw [hE (j + 4) (by omega), dg_up, ← M_eq] at this
        exact this
      have u4 := up 0 (by omega)
      have u5 := up 1 (by omega)
      have u6 := up 2 (by omega)
      have u7 := up 3 (by omega)
      rw [Nat.zero_add] at u4
      rw [show 1 + 4 = 5 from rfl] at u5
      rw [show 2 + 4 = 6 from rfl] at u6
      rw [show 3 + 4 = 7 from rfl] at u7
      clear lo hi hE J O up
      go_upto_region 13 with fail
      go_region
      go_wp2
      exact bodyPost_ret (v := .tuple #[.agg (wn (m * n)), .agg (wn (m * n / M))]) (resAA AW Try.results59 _ _ (w.heap.size + 1 + 1) (w.heap.size + 1 + 1 + 1) 24 (wn (m * n)) (wn (m * n / M)) (wn_size _) (wn_size _) rfl (J1.out.two _ _).1 rfl (J1.out.two _ _).2.1) rfl ⟨rfl, (J1.out.two _ _).2.2⟩
end
end Go.Proofs.Ytmfpnlnhebjelaa
