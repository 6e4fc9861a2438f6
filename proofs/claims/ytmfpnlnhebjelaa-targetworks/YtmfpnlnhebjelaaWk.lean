/- wide.Div by one word, awake. -/
import Derived.Test.YtmfpnlnhebjelaaWj
namespace Go.Proofs.Ytmfpnlnhebjelaa
open Go.RowKit
open Go.Deep
theorem Ad.next {w W W' : World} {t : TypeId} {m n : Nat} {f : Nat → Nat} (j : Ad w W t m n f) (h : Below W.heap.size W W') : Ad w W' t m n f :=
  ⟨j.a.below h, j.b.below h, (h.block _ (lt_heap j.r)).trans j.r, j.o.below h, below_next j.bel h⟩
theorem Ad.alloc {w W : World} {t : TypeId} {m n : Nat} {f : Nat → Nat} (j : Ad w W t m n f) (o : Obj) : Ad w (W.alloc o) t m n f := j.next ((Below.refl _ _).alloc (Nat.le_refl _) _)
theorem Ad.ne {w W : World} {t : TypeId} {m n : Nat} {f : Nat → Nat} (j : Ad w W t m n f) : w.heap.size + 1 + 1 + 1 < W.heap.size := j.o.lt
/-- Behind the two stores of an answer. -/
theorem two_rows {w W : World} {t : TypeId} {m n : Nat} {f : Nat → Nat} (j : Ad w W t m n f) (c d : Array Value) : ((W.setRow (w.heap.size + 1 + 1) c).setRow (w.heap.size + 1 + 1 + 1) d).heap[w.heap.size + 1 + 1]? = some (.cells c t (0, 0)) ∧ ((W.setRow (w.heap.size + 1 + 1) c).setRow (w.heap.size + 1 + 1 + 1) d).heap[w.heap.size + 1 + 1 + 1]? = some (.cells d t (0, 0)) ∧ Below w.heap.size w ((W.setRow (w.heap.size + 1 + 1) c).setRow (w.heap.size + 1 + 1 + 1) d) := by
  refine ⟨(setRow_other _ _ _ _ (by omega)).trans (setRow_heap _ _ _ _ _ _ j.r), setRow_heap _ _ _ _ _ _ ((setRow_other _ _ _ _ (by omega)).trans j.o.heap), below_setRow (below_setRow j.bel (by omega) _) (by omega) _⟩
attribute [local go_sem ↓] ldW_eq svW_eq
section
set_option maxRecDepth 10000
set_option maxHeartbeats 2000000
theorem div_word (m n : Nat) (hm : m < M) (h0 : 0 < n) (hn : n < 18446744073709551616) (w : World) : Calls Try.prog 37 #[.agg (wn m), .agg (wn n)] w fun e w' => e = .returned (.tuple #[.agg (wn (m / n)), .agg (wn (m % n)), .int .i64 0]) ∧ Below w.heap.size w w' := by
  have hnM : n < M := Nat.lt_trans hn (by decide)
  have J0 := hide (Ad.start w 24 m n)
  have HZ := hide fun W => zero_any n hnM W
  rw [show decide (n = 0) = false by simp; omega] at HZ
  have HL := hide fun W => low_yes n hnM hn W
  have HD := hide fun W => divWord_any m n hm h0 hn W
  have HF := hide fun W => from_any (m % n) (Nat.lt_trans (Nat.mod_lt m h0) hn) W
  clear hm h0 hn hnM
  generalize m / n = q at *
  generalize m % n = r at *
  go_enter Try.func37, Try.ntmps37
  go_upto_region 1 with (first | refine wpList_boxA rfl _ rfl (wn m) rfl ?_ | refine wpList_boxA rfl _ rfl (wn n) rfl ?_ | refine wpList_allocA AW rfl rfl ?_)
  generalize (((w.alloc (.cells (wn m) 24)).alloc (.cells (wn n) 24)).alloc (.cells (wn 0) 24)).alloc (.cells (wn 0) 24) = W0 at *
  have b0 := hide J0.out.b.heap
  go_upto_region 5 with (first | refine wpList_loadA AW rfl _ rfl _ rfl (wn n) (wn_size _) 24 b0.out ?_ | refine wpList_loadA AW rfl _ rfl _ rfl (wn n) (wn_size _) 24 b1.out ?_ | (go_at_call 38; refine (HZ.out _).mono ?_; rintro e w1 ⟨rfl, be⟩; have J1 := hide (J0.out.next be); have b1 := hide J1.out.b.heap; clear be) | (go_at_call 15; refine (HL.out _).mono ?_; rintro e w2 ⟨rfl, be⟩; have J2 := hide (J1.out.next be); have a2 := hide J2.out.a.heap; clear be))
  clear J0 b0 J1 b1 HZ HL
  go_upto_region 6 with (first | refine wpList_loadA AW rfl _ rfl _ rfl (wn m) (wn_size _) 24 a2.out ?_ | (go_at_call 39; refine (HD.out _).mono ?_; rintro e w3 ⟨rfl, be⟩; have J3 := hide (J2.out.next be); clear be) | refine wpList_allocA AW rfl rfl ?_ | refine wpList_store_newA AW rfl _ _ rfl _ rfl (wn q) (wn_size _) (wn_one _) rfl rfl ?_)
  clear J2 a2 HD
  have J4 := hide (J3.out.alloc (.cells (wn q) 24))
  have H9 := hide (heap_alloc_last w3 (.cells (wn q) 24))
  have L9 := hide H9.out
  generalize w3.alloc (.cells (wn q) 24) = W4 at *
  have hlt := hide J3.out.ne
  generalize w3.heap.size = g at *
  clear J3
  have l0 : (ldW (.pointer (some ⟨g, 0, none⟩))).run Try.prog W4.drew = .ok (.agg (wn q)) W4.drew := ldW_row (W := W4.drew) H9.out
  go_region_with (go_at_call 14; refine (HF.out _).mono ?_; rintro e w5 ⟨rfl, be⟩; have J5 := hide (J4.out.drew.next be); have l1 := ldW_row ((be.block _ (lt_heap H9.out)).trans H9.out); have s1 := svW_row J5.out.r q; have s2 := svW_row (w := w5.setRow (w.heap.size + 1 + 1) (wn q)) ((setRow_other _ _ _ _ (by omega)).trans J5.out.o.heap) r; clear be)
  all_goals (go_wp2; exact bodyPost_ret (v := .tuple #[.agg (wn q), .agg (wn r), .int .i64 0]) (resAA3 AW Try.results37 _ _ (w.heap.size + 1 + 1) (w.heap.size + 1 + 1 + 1) 24 (wn q) (wn r) (wn_size _) (wn_size _) rfl (two_rows J5.out _ _).1 rfl (two_rows J5.out _ _).2.1 _ (by rfl)) rfl ⟨rfl, (two_rows J5.out _ _).2.2⟩)
end
end Go.Proofs.Ytmfpnlnhebjelaa
