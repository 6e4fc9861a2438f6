/- The contract of the document's Sub. -/
import Derived.Test.YtmfpnlnhebjelaaZb
import Derived.Test.YtmfpnlnhebjelaaZf
namespace Go.Proofs.Ytmfpnlnhebjelaa
open Go.RowKit
open Go.Deep
theorem sub_words (m n : Nat) (hn : n < M) : wn ((m + (M - 1 - n)) % M + 1) = wn (df m n) := by
  rw [← wn_mod ((m + (M - 1 - n)) % M + 1), Nat.mod_add_mod, df, show m + (M - 1 - n) + 1 = m + M - n by omega, wn_mod]
theorem cmp_neg (m n : Nat) : (cmpZ m n < 0) = (m < n) := by
  apply propext
  unfold cmpZ
  split
  · simp; omega
  · split <;> simp <;> omega
/-- Two numbers, an answer's place, and a number at g. -/
structure Sb (w W : World) (t : TypeId) (m n g x : Nat) : Prop where
  a : W.heap[w.heap.size]? = some (.cells (wn m) t (0, 0))
  b : W.heap[w.heap.size + 1]? = some (.cells (wn n) t (0, 0))
  r : W.heap[w.heap.size + 1 + 1]? = some (.cells (wn 0) t (0, 0))
  o : W.heap[g]? = some (.cells (wn x) t (0, 0))
  lt : w.heap.size + 1 + 1 < g
  bel : Below w.heap.size w W
section
variable {w W W' : World} {t : TypeId} {m n g x : Nat}
theorem Sb.next (j : Sb w W t m n g x) (h : Below W.heap.size W W') : Sb w W' t m n g x :=
  ⟨(h.block _ (lt_heap j.a)).trans j.a, (h.block _ (lt_heap j.b)).trans j.b, (h.block _ (lt_heap j.r)).trans j.r, (h.block _ (lt_heap j.o)).trans j.o, j.lt, below_next j.bel h⟩
theorem Sb.drew (j : Sb w W t m n g x) : Sb w W.drew t m n g x := ⟨j.a, j.b, j.r, j.o, j.lt, j.bel.drew⟩
theorem Sb.put (j : Sb w W t m n g x) (y : Nat) : Sb w (W.setRow g (wn y)) t m n g y := by
  have := j.lt
  exact ⟨(setRow_other _ _ _ _ (by omega)).trans j.a, (setRow_other _ _ _ _ (by omega)).trans j.b, (setRow_other _ _ _ _ (by omega)).trans j.r, setRow_heap _ _ _ _ _ _ j.o, j.lt, below_setRow j.bel (by omega) _⟩
theorem Sb.three (w : World) (t : TypeId) (m n : Nat) : (((w.alloc (.cells (wn m) t)).alloc (.cells (wn n) t)).alloc (.cells (wn 0) t)).heap[w.heap.size]? = some (.cells (wn m) t (0, 0)) ∧ (((w.alloc (.cells (wn m) t)).alloc (.cells (wn n) t)).alloc (.cells (wn 0) t)).heap[w.heap.size + 1]? = some (.cells (wn n) t (0, 0)) ∧ (((w.alloc (.cells (wn m) t)).alloc (.cells (wn n) t)).alloc (.cells (wn 0) t)).heap[w.heap.size + 1 + 1]? = some (.cells (wn 0) t (0, 0)) ∧ Below w.heap.size w (((w.alloc (.cells (wn m) t)).alloc (.cells (wn n) t)).alloc (.cells (wn 0) t)) := by
  obtain ⟨e1, e2, e3⟩ := blk3 w (.cells (wn m) t) (.cells (wn n) t) (.cells (wn 0) t)
  exact ⟨e1, e2, e3, below3 w _ _ _⟩
/-- Three rows. -/
structure S3 (w W : World) (t : TypeId) (m n : Nat) : Prop where
  a : W.heap[w.heap.size]? = some (.cells (wn m) t (0, 0))
  b : W.heap[w.heap.size + 1]? = some (.cells (wn n) t (0, 0))
  r : W.heap[w.heap.size + 1 + 1]? = some (.cells (wn 0) t (0, 0))
  bel : Below w.heap.size w W
theorem S3.next (j : S3 w W t m n) (h : Below W.heap.size W W') : S3 w W' t m n :=
  ⟨(h.block _ (lt_heap j.a)).trans j.a, (h.block _ (lt_heap j.b)).trans j.b, (h.block _ (lt_heap j.r)).trans j.r, below_next j.bel h⟩
theorem S3.drew (j : S3 w W t m n) : S3 w W.drew t m n := ⟨j.a, j.b, j.r, j.bel.drew⟩
theorem S3.new (j : S3 w W t m n) (x : Nat) : Sb w (W.alloc (.cells (wn x) t)) t m n W.heap.size x := by
  have k := j.next ((Below.refl _ _).alloc (Nat.le_refl _) (.cells (wn x) t))
  exact ⟨k.a, k.b, k.r, heap_alloc_last _ _, lt_heap j.r, k.bel⟩
theorem S3.alloc (j : S3 w W t m n) (o : Obj) : S3 w (W.alloc o) t m n := j.next ((Below.refl _ _).alloc (Nat.le_refl _) _)
theorem S3.at (j : S3 w W t m n) (z : W.heap[g]? = some (.cells (wn x) t (0, 0))) (lt : w.heap.size + 1 + 1 < g) : Sb w W t m n g x := ⟨j.a, j.b, j.r, z, lt, j.bel⟩
theorem S3.lt (j : S3 w W t m n) : w.heap.size + 1 + 1 < W.heap.size := lt_heap j.r
theorem S3.start (w : World) (t : TypeId) (m n : Nat) : S3 w (((w.alloc (.cells (wn m) t)).alloc (.cells (wn n) t)).alloc (.cells (wn 0) t)) t m n := by
  obtain ⟨a, b, c, d⟩ := Sb.three w t m n
  exact ⟨a, b, c, d⟩
end
theorem zW_eq : wn 0 = #[.int .u64 0, .int .u64 0, .int .u64 0, .int .u64 0] := wn_small 0 (by decide)
theorem svR_new (W : World) (n : Nat) : (svR (.pointer (some ⟨W.heap.size, 0, none⟩)) (.agg (wn n))).run Try.prog (W.alloc (.cells #[.int .u64 0, .int .u64 0, .int .u64 0, .int .u64 0] 23)) = .ok () ((W.alloc (.cells #[.int .u64 0, .int .u64 0, .int .u64 0, .int .u64 0] 23)).setRow W.heap.size (wn n)) := by
  rw [← zW_eq]
  exact svR_row (heap_alloc_last W _) n
theorem svW_new (W : World) (n : Nat) : (svW (.pointer (some ⟨W.heap.size, 0, none⟩)) (.agg (wn n))).run Try.prog (W.alloc (.cells #[.int .u64 0, .int .u64 0, .int .u64 0, .int .u64 0] 24)) = .ok () ((W.alloc (.cells #[.int .u64 0, .int .u64 0, .int .u64 0, .int .u64 0] 24)).setRow W.heap.size (wn n)) := by
  rw [← zW_eq]
  exact svW_row (heap_alloc_last W _) n
attribute [local go_sem ↓] ldR_eq svR_eq
section
set_option maxRecDepth 10000
set_option maxHeartbeats 2000000
theorem rsub_any (m n : Nat) (hm : m < M) (hn : n < M) (w : World) : Calls Try.prog 56 #[.agg (wn m), .agg (wn n)] w fun e w' => e = .returned (.tuple #[.agg (wn (df m n)), .bool (decide (m < n))]) ∧ Below w.heap.size w w' := by
  have J0 := hide (S3.start w 23 m n)
  have HN := hide fun W => rnot_any n hn W
  have hu : M - 1 - n < M := by have := M_pos; omega
  have HA := hide fun W => radd_any m (M - 1 - n) hm hu W
  rw [← wn_mod (m + (M - 1 - n))] at HA
  have hx := Nat.mod_lt (m + (M - 1 - n)) M_pos
  have HA2 := hide fun W => radd_any _ 1 hx (by decide) W
  rw [sub_words m n hn] at HA2
  have HC := hide fun W => rcompare_any m n hm hn W
  have hd : decide (cmpZ m n < 0) = decide (m < n) := by simp only [cmp_neg]
  have B1 : Hid (∀ W, (Instr.build 23 #[(0, .int .u64 1)]).run Try.prog W = .ok (.agg (wn 1)) W) := fun W => run_buildR 1 (by decide) W
  generalize (m + (M - 1 - n)) % M = X at *
  generalize M - 1 - n = U at *
  generalize df m n = D at *
  generalize decide (m < n) = lt at *
  generalize cmpZ m n = z at *
  generalize decide (M ≤ m + U) = o1 at *
  generalize decide (M ≤ X + 1) = o2 at *
  have HD := hide hd
  clear hm hn hu hx hd
  go_enter Try.func56, Try.ntmps56
  go_upto_region 1 with (first | refine wpList_boxA rfl _ rfl (wn m) rfl ?_ | refine wpList_boxA rfl _ rfl (wn n) rfl ?_ | refine wpList_allocA AR rfl rfl ?_)
  generalize ((w.alloc (.cells (wn m) 23)).alloc (.cells (wn n) 23)).alloc (.cells (wn 0) 23) = W0 at *
  have l1 := ldR_row (W := W0.drew) J0.out.a
  have l2 := ldR_row (W := W0.drew) J0.out.b
  go_cut [6, 7] from 8 to 14 (fun s6 s7 wx => ∃ g, s6 = .pointer (some ⟨g, 0, none⟩) ∧ s7 = .bool o1 ∧ Hid (Sb w wx 23 m n g X))
  case first =>
    have lt0 := hide J0.out.lt
    have l5 := ldR_row (W := (W0.alloc (.cells #[.int .u64 0, .int .u64 0, .int .u64 0, .int .u64 0] 23)).drew) (J0.out.alloc _).a
    have l6 := ldR_row (W := (W0.alloc (.cells #[.int .u64 0, .int .u64 0, .int .u64 0, .int .u64 0] 23)).drew) (J0.out.alloc _).b
    go_region_with (first | (go_at_call 69; refine (HN.out _).mono ?_; rintro e w1 ⟨rfl, be⟩; (first | have J1 := hide (J0.out.drew.next be) | have J1 := hide ((J0.out.alloc _).drew.next be)); have l3 := ldR_row J1.out.a; have l4 := ldR_row (W := w1.alloc (.cells #[.int .u64 0, .int .u64 0, .int .u64 0, .int .u64 0] 23)) (J1.out.alloc _).a; (try have z1 : Hid (w1.heap[W0.heap.size]? = some (.cells (wn 0) 23 (0, 0))) := (be.block _ (by simp)).trans (by rw [zW_eq]; exact heap_alloc_last W0 _)); clear be) | (go_at_call 44; refine (HA.out _).mono ?_; rintro e w2 ⟨rfl, be⟩; (first | have J2 := hide (J1.out.next be) | have J2 := hide ((J1.out.alloc _).next be)); (try have z2 : Hid (w2.heap[W0.heap.size]? = some (.cells (wn 0) 23 (0, 0))) := (be.block _ (lt_heap z1.out)).trans z1.out); (try have z2 : Hid (w2.heap[w1.heap.size]? = some (.cells (wn 0) 23 (0, 0))) := (be.block _ (by simp)).trans (by rw [zW_eq]; exact heap_alloc_last w1 _)); (first | have s1 := svR_row z2.out X | have s1 := svR_new w2 X); clear be))
    all_goals (go_wp2_with fail; go_meet; first | exact ⟨_, rfl, rfl, by rw [← zW_eq]; exact (J2.out.new 0).put X⟩ | exact ⟨_, rfl, rfl, (J2.out.at z2.out lt0.out).put X⟩ | exact ⟨_, rfl, rfl, (J2.out.at z2.out J1.out.lt).put X⟩)
  obtain ⟨g, rfl, rfl, J1⟩ := hcut
  clear J0 l1 l2 HN HA
  have g1 := hide J1.out.o
  go_upto_region 3 with (first | refine wpList_loadA AR rfl _ rfl _ rfl (wn X) (wn_size _) 23 g1.out ?_ | refine wpList_build1 rfl _ rfl _ (wn 1) B1.out rfl ?_ | (go_at_call 44; refine (HA2.out _).mono ?_; rintro e w3 ⟨rfl, be⟩; have J3 := hide (J1.out.next be); have g3 := hide J3.out.o; clear be) | refine wpList_storeA AR rfl _ _ rfl _ (wn D) (wn_size _) (wn_one _) rfl rfl (wn X) (wn_size _) 23 g3.out ?_)
  have J4 := hide (J3.out.put D)
  generalize w3.setRow g (wn D) = W4 at *
  clear J1 g1 J3 g3 HA2
  have l1 := ldR_row (W := W4.drew) J4.out.a
  have l2 := ldR_row (W := W4.drew) J4.out.b
  have l3 := ldR_row (W := W4.drew) J4.out.o
  go_region_with (go_at_call 55; refine (HC.out _).mono ?_; rintro e w5 ⟨rfl, be⟩; have J5 := hide (J4.out.drew.next be); have l4 := ldR_row J5.out.o; have s1 := svR_row J5.out.r D; clear be)
  all_goals (go_wp2; exact bodyPost_ret (v := .tuple #[.agg (wn D), .bool lt]) (resA2 AR Try.results56 _ _ (w.heap.size + 1 + 1) 23 (wn D) (wn_size _) rfl (setRow_heap _ _ _ _ _ _ J5.out.r) _ (by rw [← HD.out]; rfl)) rfl ⟨rfl, below_setRow J5.out.bel (by omega) _⟩)
end
end Go.Proofs.Ytmfpnlnhebjelaa
