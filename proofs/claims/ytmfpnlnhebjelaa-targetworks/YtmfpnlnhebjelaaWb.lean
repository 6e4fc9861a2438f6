/- The contracts of wide.Add, Sub, From, Zero, and the document's Add, Not, Compare, Sub. -/
import Derived.Test.YtmfpnlnhebjelaaWa
namespace Go.Proofs.Ytmfpnlnhebjelaa
open Go.RowKit
open Go.Deep
/-- The carry behind i words. -/
def cy (m n i : Nat) : Nat := (m % 18446744073709551616 ^ i + n % 18446744073709551616 ^ i) / 18446744073709551616 ^ i
theorem cy_zero (m n : Nat) : cy m n 0 = 0 := by simp [cy, Nat.mod_one]
theorem cy_le (m n i : Nat) : cy m n i ≤ 1 := carry_le _ m n i (by decide)
theorem add_word (m n i : Nat) : (wd m i + wd n i + cy m n i) % 18446744073709551616 = wd (m + n) i := (add_digit _ m n i (by decide)).symm
theorem cy_step (m n i : Nat) : (wd m i + wd n i + cy m n i) / 18446744073709551616 = cy m n (i + 1) := (add_carry _ m n i (by decide)).symm
theorem blk2x (w : World) (A B : Obj) : ((w.alloc A).alloc B).heap[w.heap.size]? = some A ∧ ((w.alloc A).alloc B).heap[w.heap.size + 1]? = some B := by
  have e1 := heap_alloc_last w A
  have e2 := heap_alloc_last (w.alloc A) B
  have s1 : (w.alloc A).heap.size = w.heap.size + 1 := by simp
  rw [s1] at e2
  exact ⟨(Below.heap_alloc _ B _ (by omega)).trans e1, e2⟩
theorem below2x (w : World) (A B : Obj) : Below w.heap.size w ((w.alloc A).alloc B) :=
  ((Below.refl _ _).alloc (Nat.le_refl _) _).alloc (by simp) _
theorem blk4 (w : World) (A B C D : Obj) : ((((w.alloc A).alloc B).alloc C).alloc D).heap[w.heap.size]? = some A ∧ ((((w.alloc A).alloc B).alloc C).alloc D).heap[w.heap.size + 1]? = some B ∧ ((((w.alloc A).alloc B).alloc C).alloc D).heap[w.heap.size + 1 + 1]? = some C ∧ ((((w.alloc A).alloc B).alloc C).alloc D).heap[w.heap.size + 1 + 1 + 1]? = some D := by
  obtain ⟨e1, e2, e3⟩ := blk3 w A B C
  have e4 := heap_alloc_last (((w.alloc A).alloc B).alloc C) D
  have s3 : (((w.alloc A).alloc B).alloc C).heap.size = w.heap.size + 1 + 1 + 1 := by simp
  rw [s3] at e4
  exact ⟨(Below.heap_alloc _ D _ (by omega)).trans e1, (Below.heap_alloc _ D _ (by omega)).trans e2, (Below.heap_alloc _ D _ (by omega)).trans e3, e4⟩
theorem below4 (w : World) (A B C D : Obj) : Below w.heap.size w ((((w.alloc A).alloc B).alloc C).alloc D) :=
  ((((Below.refl _ _).alloc (Nat.le_refl _) _).alloc (by simp) _).alloc (by simp; omega) _).alloc (by simp; omega) _
/-- Two numbers, an answer's place and a fourth row. -/
structure Ad (w W : World) (t : TypeId) (m n : Nat) (f : Nat → Nat) : Prop where
  a : Nd W w.heap.size t 4 (wd m)
  b : Nd W (w.heap.size + 1) t 4 (wd n)
  r : W.heap[w.heap.size + 1 + 1]? = some (.cells (wn 0) t (0, 0))
  o : Nd W (w.heap.size + 1 + 1 + 1) t 4 f
  bel : Below w.heap.size w W
theorem Ad.start (w : World) (t : TypeId) (m n : Nat) : Ad w ((((w.alloc (.cells (wn m) t)).alloc (.cells (wn n) t)).alloc (.cells (wn 0) t)).alloc (.cells (wn 0) t)) t m n (wd 0) := by
  obtain ⟨e1, e2, e3, e4⟩ := blk4 w (.cells (wn m) t) (.cells (wn n) t) (.cells (wn 0) t) (.cells (wn 0) t)
  exact ⟨Nd.of_heap e1, Nd.of_heap e2, e3, Nd.of_heap e4, below4 w _ _ _ _⟩
theorem Ad.set {w W : World} {t : TypeId} {m n : Nat} {f : Nat → Nat} (j : Ad w W t m n f) (i x : Nat) : Ad w (W.setCell ⟨w.heap.size + 1 + 1 + 1, i, none⟩ (.int .u64 ((x : Nat) : Int))) t m n (fun k => if k = i then x else f k) :=
  ⟨j.a.other (by omega) _ _, j.b.other (by omega) _ _, (Below.heap_setCell _ _ _ _ (by simp)).trans j.r, j.o.set i x, j.bel.setCell (by simp; omega) _⟩
theorem Ad.drew {w W : World} {t : TypeId} {m n : Nat} {f : Nat → Nat} (j : Ad w W t m n f) : Ad w W.drew t m n f := ⟨j.a, j.b, j.r, j.o, j.bel.drew⟩
theorem Ad.congr {w W : World} {t : TypeId} {m n : Nat} {f f' : Nat → Nat} (j : Ad w W t m n f) (e : ∀ i, i < 4 → f i = f' i) : Ad w W t m n f' := ⟨j.a, j.b, j.r, j.o.congr e, j.bel⟩
/-- The first i words of a number, zeros behind. -/
def wf (N i j : Nat) : Nat := if j < i then wd N j else 0
theorem wf_zero (N j : Nat) : wd 0 j = wf N 0 j := by simp [wf, wd, dg_zero]
theorem wf_step (N i j : Nat) : (if j = i then wd N i else wf N i j) = wf N (i + 1) j := by
  unfold wf
  by_cases e : j = i
  · rw [if_pos e, if_pos (by omega), e]
  · rw [if_neg e]
    by_cases e2 : j < i
    · rw [if_pos e2, if_pos (by omega)]
    · rw [if_neg e2, if_neg (by omega)]
theorem wf_four (N j : Nat) (h : j < 4) : wf N 4 j = wd N j := by rw [wf, if_pos h]
theorem cy_end (m n : Nat) (hm : m < M) (hn : n < M) : cy m n 4 = if M ≤ m + n then 1 else 0 := by
  unfold cy
  rw [← M_eq, Nat.mod_eq_of_lt hm, Nat.mod_eq_of_lt hn]
  have := M_pos
  split
  · rename_i h
    rw [Nat.div_eq_sub_div this h, Nat.div_eq_of_lt (by omega)]
  · rename_i h
    rw [Nat.div_eq_of_lt (by omega)]
section
set_option maxRecDepth 10000
set_option maxHeartbeats 1000000
theorem wadd_any (m n : Nat) (hm : m < M) (hn : n < M) (w : World) : Calls Try.prog 36 #[.agg (wn m), .agg (wn n)] w fun e w' => e = .returned (.tuple #[.agg (wn (m + n)), .bool (decide (M ≤ m + n))]) ∧ Below w.heap.size w w' := by
  have J0 := hide ((Ad.start w 24 m n).congr (fun i _ => wf_zero (m + n) i))
  go_enter Try.func36, Try.ntmps36
  go_wp2_with (first | refine wpList_boxA rfl _ rfl (wn m) rfl ?_ | refine wpList_boxA rfl _ rfl (wn n) rfl ?_ | refine wpList_allocA AW rfl rfl ?_)
  generalize (((w.alloc (.cells (wn m) 24)).alloc (.cells (wn n) 24)).alloc (.cells (wn 0) 24)).alloc (.cells (wn 0) 24) = W0 at *
  go_loopw [7, 8, 9] (fun c _ d wr => ∃ i : Nat, i ≤ 4 ∧ c = .int .u64 ((cy m n i : Nat) : Int) ∧ d = .int .i64 i ∧ Hid (Ad w wr 24 m n (wf (m + n) i))) (fun _ _ d _ => (4 - intOf d).toNat)
  case atStart => exact ⟨0, by omega, by rw [cy_zero]; rfl, rfl, J0⟩
  case round =>
    clear J0
    obtain ⟨i, hi, rfl, rfl, J⟩ := hrel
    by_cases hlt : i < 4
    · have ha := J.out.a.cell hlt
      have hb := J.out.b.cell hlt
      have ho := J.out.o.cell hlt
      have hf := J.out.o.fz i
      have hi4 : (i : Int) < 4 := by omega
      have hC := fun W => add64_run (wd m i) (wd n i) _ (cy_le m n i) W
      rw [add_word, cy_step] at hC
      go_upto_region 6 with fail
      go_region_with (simp only [hC])
      all_goals (go_wp2; exact ⟨⟨i + 1, by omega, rfl, by go_num, hide ((J.out.drew.set i _).congr (fun k _ => wf_step (m + n) i k))⟩, by simp [intOf]; omega⟩)
    · have hke : i = 4 := by omega
      subst hke
      have H2 := (J.out.o.congr (wf_four (m + n))).heap
      have hE : (((cy m n 4 : Nat) : Int) != 0) = decide (M ≤ m + n) := by
        rw [cy_end m n hm hn]
        by_cases h : M ≤ m + n <;> simp [h]
      generalize cy m n 4 = c at *
      go_wp2_with (first | refine wpList_loadA AW rfl _ rfl _ rfl (wn (m + n)) (wn_size _) 24 H2 ?_ | refine wpList_storeA AW rfl _ _ rfl _ (wn (m + n)) (wn_size _) (wn_one _) rfl rfl (wn 0) (wn_size 0) 24 J.out.r ?_)
      exact bodyPost_ret (v := .tuple #[.agg (wn (m + n)), .bool (decide (M ≤ m + n))]) (resA2 AW Try.results36 _ _ (w.heap.size + 1 + 1) 24 (wn (m + n)) (wn_size _) rfl (setRow_heap _ _ _ _ _ _ J.out.r) _ (by rfl)) rfl ⟨rfl, below_setRow J.out.bel (by omega) _⟩
end
end Go.Proofs.Ytmfpnlnhebjelaa
