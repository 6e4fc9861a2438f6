/- The law WideSums: its walk. -/
import Derived.Test.YtmgoecgpdceppaaZl
import Derived.Test.YtmgoecgpdceppaaZi
import Derived.Test.YtmgoecgpdceppaaZd
import Derived.Test.YtmgoecgpdceppaaWl
namespace Go.Proofs.Ytmgoecgpdceppaa
open Go.RowKit
open Go.Deep
/-- Rows of numbers: place, type, number. -/
structure Rs (w W : World) (l : List (Nat × TypeId × Nat)) : Prop where
  row : ∀ p ∈ l, W.heap[p.1]? = some (.cells (wn p.2.2) p.2.1 (0, 0))
  bel : Below w.heap.size w W
section
variable {w W W' : World} {l : List (Nat × TypeId × Nat)} {g n : Nat} {t : TypeId}
theorem Rs.at (j : Rs w W l) (h : (g, t, n) ∈ l) : W.heap[g]? = some (.cells (wn n) t (0, 0)) := j.row _ h
theorem Rs.next (j : Rs w W l) (h : Below W.heap.size W W') : Rs w W' l := ⟨fun p hp => (h.block _ (lt_heap (j.row p hp))).trans (j.row p hp), below_next j.bel h⟩
theorem Rs.drew (j : Rs w W l) : Rs w W.drew l := ⟨j.row, j.bel.drew⟩
theorem Rs.new (j : Rs w W l) (t : TypeId) (x : Nat) : Rs w (W.alloc (.cells (wn x) t)) ((W.heap.size, t, x) :: l) := by
  have k := j.next ((Below.refl _ _).alloc (Nat.le_refl _) (.cells (wn x) t))
  refine ⟨fun p hp => ?_, k.bel⟩
  rcases List.mem_cons.1 hp with rfl | h
  · exact heap_alloc_last _ _
  · exact k.row p h
theorem Rs.two (j : Rs w W l) (t : TypeId) (x y : Nat) : Rs w ((((W.alloc (.cells (wn 0) t)).alloc (.cells (wn 0) t)).setRow W.heap.size (wn x)).setRow (W.heap.size + 1) (wn y)) ((W.heap.size, t, x) :: (W.heap.size + 1, t, y) :: l) := by
  obtain ⟨e1, e2, b⟩ := blk2w W t (wn 0) (wn x) (wn y)
  have k := j.next b
  refine ⟨fun p hp => ?_, k.bel⟩
  rcases List.mem_cons.1 hp with rfl | hp
  · exact e1
  · rcases List.mem_cons.1 hp with rfl | h
    · exact e2
    · exact k.row p h
theorem Rs.start2 (w : World) (t : TypeId) (m n : Nat) : Rs w ((w.alloc (.cells (wn m) t)).alloc (.cells (wn n) t)) [(w.heap.size + 1, t, n), (w.heap.size, t, m)] := by
  obtain ⟨e1, e2⟩ := blk2x w (.cells (wn m) t) (.cells (wn n) t)
  refine ⟨fun p hp => ?_, below2x w _ _⟩
  simp only [List.mem_cons, List.not_mem_nil, or_false] at hp
  rcases hp with rfl | rfl
  · exact e2
  · exact e1
theorem Rs.start1 (w : World) (t : TypeId) (m : Nat) : Rs w (w.alloc (.cells (wn m) t)) [(w.heap.size, t, m)] := by
  refine ⟨fun p hp => ?_, (Below.refl _ _).alloc (Nat.le_refl _) _⟩
  simp only [List.mem_cons, List.not_mem_nil, or_false] at hp
  subst hp
  exact heap_alloc_last _ _
/-- Worlds in which these rows lie, as a class. -/
theorem Rs.cls (j : Rs w W l) : ∃ (I : Type) (_ : Nonempty I) (F : I → World) (i0 : I), W.drew = F i0 ∧ Hid (∀ i, Rs w (F i) l) ∧ Hid (∀ i W', Below (F i).heap.size (F i) W' → ∃ j, W' = F j) :=
  ⟨{W : World // Rs w W l}, ⟨⟨_, j⟩⟩, Subtype.val, ⟨W.drew, j.drew⟩, rfl, fun i => i.2, fun i W' b => ⟨⟨W', i.2.next b⟩, rfl⟩⟩
theorem Rs.of {I : Type} {F : I → World} (hJ : Hid (∀ i, Rs w (F i) l)) (h : (g, t, n) ∈ l) (W : World) (hC : ∃ i, W = F i) : W.heap[g]? = some (.cells (wn n) t (0, 0)) := by
  obtain ⟨i, rfl⟩ := hC
  exact (hJ.out i).at h
end
section
set_option maxRecDepth 10000
set_option maxHeartbeats 4000000
theorem wideSums_walk (m : Nat) (hm : m < M) (n : Nat) (hn : n < M) (w : World) : Calls Try.prog 3 #[.agg (wn m), .agg (wn n)] w fun e w' => e = .returned (.bool true) ∧ Below w.heap.size w w' := by
  have HAw := hide fun W => awake_any W
  have HA := hide fun W => wadd_any m n hm hn W
  have HA2 := hide fun W => radd_any m n hm hn W
  have HS := hide fun W => wsub_any m n hm hn W
  have HS2 := hide fun W => rsub_any m n hm hn W
  have HP := hide fun W => mul_any m n hm hn W
  have HP2 := hide fun W => rmul_any m n hm hn W
  have HC := hide fun W => compare_any m n hm hn W
  have HC2 := hide fun W => rcompare_any m n hm hn W
  have HN := hide fun W => not_any m hm W
  have HN2 := hide fun W => rnot_any m hm W
  have HZ := hide fun W => zero_any m hm W
  rw [← wn_mod (m + n)] at HA HA2
  rw [← wn_mod (df m n)] at HS HS2
  rw [← wn_mod (m * n)] at HP HP2
  have hA := Nat.mod_lt (m + n) M_pos
  have hS := Nat.mod_lt (df m n) M_pos
  have hP := Nat.mod_lt (m * n) M_pos
  have hH : m * n / M < M := by
    rw [Nat.div_lt_iff_lt_mul M_pos]
    exact Nat.mul_lt_mul_of_lt_of_le hm (by omega) M_pos
  have hNt : M - 1 - m < M := by have := M_pos; omega
  have eA := hide fun W => eqW _ _ hA hA W
  rw [show decide ((m + n) % M = (m + n) % M) = true by simp] at eA
  have eS := hide fun W => eqW _ _ hS hS W
  rw [show decide (df m n % M = df m n % M) = true by simp] at eS
  have eP := hide fun W => eqW _ _ hP hP W
  rw [show decide (m * n % M = m * n % M) = true by simp] at eP
  have eH := hide fun W => eqW _ _ hH hH W
  rw [show decide (m * n / M = m * n / M) = true by simp] at eH
  have eN := hide fun W => eqW _ _ hNt hNt W
  rw [show decide (M - 1 - m = M - 1 - m) = true by simp] at eN
  have eZ := hide fun W => eqW m 0 hm M_pos W
  have HM := hide (And.intro hm hn)
  have J0 := hide (Rs.start2 w 24 m n)
  generalize (m + n) % M = A at *
  generalize df m n % M = S at *
  generalize m * n / M = H at *
  generalize m * n % M = P at *
  generalize M - 1 - m = U at *
  generalize hzb : decide (m = 0) = zb at *
  generalize decide (M ≤ m + n) = oa at *
  generalize decide (m < n) = ul at *
  generalize cmpZ m n = z at *
  have b1 : (oa != oa) = false := by simp
  have b2 : (ul != ul) = false := by simp
  have b3 : (z != z) = false := by simp
  have b4 : (zb != zb) = false := by simp
  clear hm hn hA hS hP hH hNt hzb
  go_enter Try.func3, Try.ntmps3
  go_upto_region 1 with (first | refine wpList_boxA rfl _ rfl (wn m) rfl ?_ | refine wpList_boxA rfl _ rfl (wn n) rfl ?_)
  generalize (w.alloc (.cells (wn m) 24)).alloc (.cells (wn n) 24) = W0 at *
  go_upto_region 3 with (go_at_call 9; refine (HAw.out _).mono ?_; rintro e w1 ⟨rfl, be⟩; have J1 := hide (J0.out.next be); clear be)
  have ra := hide (J1.out.at (g := w.heap.size) (t := 24) (n := m) (by simp))
  have rb := hide (J1.out.at (g := w.heap.size + 1) (t := 24) (n := n) (by simp))
  go_upto_region 4 with (first | refine wpList_loadA AW rfl _ rfl _ rfl (wn m) (wn_size _) 24 ra.out ?_ | refine wpList_loadA AW rfl _ rfl _ rfl (wn n) (wn_size _) 24 rb.out ?_ | (go_at_call 10; refine (HA.out _).mono ?_; rintro e w2 ⟨rfl, be⟩; have J2 := hide ((J1.out.next be).new 24 A); clear be) | refine wpList_allocA AW rfl rfl ?_ | refine wpList_store_newA AW rfl _ _ rfl _ rfl (wn A) (wn_size _) (wn_one _) rfl rfl ?_)
  generalize w2.alloc (.cells (wn A) 24) = W2 at *
  generalize w2.heap.size = g5 at *
  clear J0 J1 ra rb HA HAw
  have ra := hide (J2.out.at (g := w.heap.size) (t := 24) (n := m) (by simp))
  have rb := hide (J2.out.at (g := w.heap.size + 1) (t := 24) (n := n) (by simp))
  go_upto_region 5 with (first | refine wpList_loadA AW rfl _ rfl _ rfl (wn m) (wn_size _) 24 ra.out ?_ | refine wpList_loadA AW rfl _ rfl _ rfl (wn n) (wn_size _) 24 rb.out ?_ | (go_at_call 11; refine (HA2.out _).mono ?_; rintro e w3 ⟨rfl, be⟩; have J3 := hide ((J2.out.next be).new 23 A); clear be) | refine wpList_allocA AR rfl rfl ?_ | refine wpList_store_newA AR rfl _ _ rfl _ rfl (wn A) (wn_size _) (wn_one _) rfl rfl ?_)
  generalize w3.alloc (.cells (wn A) 23) = W3 at *
  generalize w3.heap.size = g7 at *
  clear J2 ra rb HA2
  have ra := hide (J3.out.at (g := w.heap.size) (t := 24) (n := m) (by simp))
  have rb := hide (J3.out.at (g := w.heap.size + 1) (t := 24) (n := n) (by simp))
  go_upto_region 6 with (first | refine wpList_loadA AW rfl _ rfl _ rfl (wn m) (wn_size _) 24 ra.out ?_ | refine wpList_loadA AW rfl _ rfl _ rfl (wn n) (wn_size _) 24 rb.out ?_ | (go_at_call 12; refine (HS.out _).mono ?_; rintro e w4 ⟨rfl, be⟩; have J4 := hide ((J3.out.next be).new 24 S); clear be) | refine wpList_allocA AW rfl rfl ?_ | refine wpList_store_newA AW rfl _ _ rfl _ rfl (wn S) (wn_size _) (wn_one _) rfl rfl ?_)
  generalize w4.alloc (.cells (wn S) 24) = W4 at *
  generalize w4.heap.size = g9 at *
  clear J3 ra rb HS
  have ra := hide (J4.out.at (g := w.heap.size) (t := 24) (n := m) (by simp))
  have rb := hide (J4.out.at (g := w.heap.size + 1) (t := 24) (n := n) (by simp))
  go_upto_region 7 with (first | refine wpList_loadA AW rfl _ rfl _ rfl (wn m) (wn_size _) 24 ra.out ?_ | refine wpList_loadA AW rfl _ rfl _ rfl (wn n) (wn_size _) 24 rb.out ?_ | (go_at_call 13; refine (HS2.out _).mono ?_; rintro e w5 ⟨rfl, be⟩; have J5 := hide ((J4.out.next be).new 23 S); clear be) | refine wpList_allocA AR rfl rfl ?_ | refine wpList_store_newA AR rfl _ _ rfl _ rfl (wn S) (wn_size _) (wn_one _) rfl rfl ?_)
  generalize w5.alloc (.cells (wn S) 23) = W5 at *
  generalize w5.heap.size = g11 at *
  clear J4 ra rb HS2
  have ra := hide (J5.out.at (g := w.heap.size) (t := 24) (n := m) (by simp))
  have rb := hide (J5.out.at (g := w.heap.size + 1) (t := 24) (n := n) (by simp))
  go_upto_region 8 with (first | refine wpList_loadA AW rfl _ rfl _ rfl (wn m) (wn_size _) 24 ra.out ?_ | refine wpList_loadA AW rfl _ rfl _ rfl (wn n) (wn_size _) 24 rb.out ?_ | (go_at_call 14; refine (HP.out _).mono ?_; rintro e w6 ⟨rfl, be⟩; have J6 := hide ((J5.out.next be).two 24 P H); clear be) | refine wpList_allocA AW rfl rfl ?_ | refine wpList_storeA AW rfl _ _ rfl _ (wn P) (wn_size _) (wn_one _) rfl rfl (wn 0) (wn_size _) 24 (blk2x w6 (.cells (wn 0) 24) (.cells (wn 0) 24)).1 ?_ | refine wpList_storeA AW rfl _ _ rfl _ (wn H) (wn_size _) (wn_one _) rfl rfl (wn 0) (wn_size _) 24 (blk2s w6 (.cells (wn 0) 24) (.cells (wn 0) 24) (wn P)) ?_)
  try rw [show (w6.alloc (.cells (wn 0) 24)).heap.size = w6.heap.size + 1 by simp]
  generalize (((w6.alloc (.cells (wn 0) 24)).alloc (.cells (wn 0) 24)).setRow w6.heap.size (wn P)).setRow (w6.heap.size + 1) (wn H) = W6 at *
  generalize w6.heap.size = g13 at *
  clear J5 ra rb HP
  have ra := hide (J6.out.at (g := w.heap.size) (t := 24) (n := m) (by simp))
  have rb := hide (J6.out.at (g := w.heap.size + 1) (t := 24) (n := n) (by simp))
  go_upto_region 9 with (first | refine wpList_loadA AW rfl _ rfl _ rfl (wn m) (wn_size _) 24 ra.out ?_ | refine wpList_loadA AW rfl _ rfl _ rfl (wn n) (wn_size _) 24 rb.out ?_ | (go_at_call 15; refine (HP2.out _).mono ?_; rintro e w7 ⟨rfl, be⟩; have J7 := hide ((J6.out.next be).two 23 P H); clear be) | refine wpList_allocA AR rfl rfl ?_ | refine wpList_storeA AR rfl _ _ rfl _ (wn P) (wn_size _) (wn_one _) rfl rfl (wn 0) (wn_size _) 23 (blk2x w7 (.cells (wn 0) 23) (.cells (wn 0) 23)).1 ?_ | refine wpList_storeA AR rfl _ _ rfl _ (wn H) (wn_size _) (wn_one _) rfl rfl (wn 0) (wn_size _) 23 (blk2s w7 (.cells (wn 0) 23) (.cells (wn 0) 23) (wn P)) ?_)
  try simp only [Act.put, List.setIfInBounds_toArray, List.set_cons_succ, List.set_cons_zero, hsz]
  generalize (((w7.alloc (.cells (wn 0) 23)).alloc (.cells (wn 0) 23)).setRow w7.heap.size (wn P)).setRow (w7.heap.size + 1) (wn H) = W7 at *
  generalize w7.heap.size = g15 at *
  clear J6 ra rb HP2
  obtain ⟨I, hne, F, i0, h0, hJ, hcl⟩ := J7.out.cls
  refine wp_region_class_lit (by kernel_rfl) (by kernel_rfl) i0 h0 ?_
  repeat (first | ((go_big_quiet_want; first | refine quiet_loadA AW _ (by rfl) w.heap.size (by rfl) (wn m) (wn_size _) 24 (Rs.of hJ (by simp)) ?_ | refine quiet_loadA AW _ (by rfl) (w.heap.size + 1) (by rfl) (wn n) (wn_size _) 24 (Rs.of hJ (by simp)) ?_ | refine quiet_loadA AW _ (by rfl) g5 (by rfl) (wn A) (wn_size _) 24 (Rs.of hJ (by simp)) ?_ | refine quiet_loadA AR _ (by rfl) g7 (by rfl) (wn A) (wn_size _) 23 (Rs.of hJ (by simp)) ?_ | refine quiet_loadA AW _ (by rfl) g9 (by rfl) (wn S) (wn_size _) 24 (Rs.of hJ (by simp)) ?_ | refine quiet_loadA AR _ (by rfl) g11 (by rfl) (wn S) (wn_size _) 23 (Rs.of hJ (by simp)) ?_ | refine quiet_loadA AW _ (by rfl) g13 (by rfl) (wn P) (wn_size _) 24 (Rs.of hJ (by simp)) ?_ | refine quiet_loadA AW _ (by rfl) (g13 + 1) (by rfl) (wn H) (wn_size _) 24 (Rs.of hJ (by simp)) ?_ | refine quiet_loadA AR _ (by rfl) g15 (by rfl) (wn P) (wn_size _) 23 (Rs.of hJ (by simp)) ?_ | refine quiet_loadA AR _ (by rfl) (g15 + 1) (by rfl) (wn H) (wn_size _) 23 (Rs.of hJ (by simp)) ?_ | refine quiet_build0 AW (by rfl) ?_ | refine quiet_neqW 24 _ _ _ (by rfl) (wn A) (wn A) (by rfl) (by rfl) eqgW true eA.out ?_ | refine quiet_neqW 24 _ _ _ (by rfl) (wn S) (wn S) (by rfl) (by rfl) eqgW true eS.out ?_ | refine quiet_neqW 24 _ _ _ (by rfl) (wn P) (wn P) (by rfl) (by rfl) eqgW true eP.out ?_ | refine quiet_neqW 24 _ _ _ (by rfl) (wn H) (wn H) (by rfl) (by rfl) eqgW true eH.out ?_ | refine quiet_neqW 24 _ _ _ (by rfl) (wn U) (wn U) (by rfl) (by rfl) eqgW true eN.out ?_ | refine quiet_eql 24 _ _ _ (by rfl) (wn m) (wn 0) (by rfl) (by rfl) eqgW zb eZ.out ?_); go_big_quiet_on; simp only [Act.put, List.setIfInBounds_toArray, List.set_cons_succ, List.set_cons_zero, Bool.not_true]) | go_big_quiet_step (first | (go_at_call 16; exact class_of hcl.out (HC.out _)) | (go_at_call 17; exact class_of hcl.out (HC2.out _)) | (go_at_call 18; exact class_of hcl.out (HN.out _)) | (go_at_call 19; exact class_of hcl.out (HN2.out _)) | (go_at_call 20; exact class_of hcl.out (HZ.out _))))
  refine wpQuiet_nil ?_
  rintro _ ⟨iq, rfl⟩
  have J8 := hide (hJ.out iq)
  clear hJ hcl h0 J7 HC HC2 HN HN2 HZ eA eS eP eH eN
  generalize F iq = W8 at *
  have ra := hide (J8.out.at (g := w.heap.size) (t := 24) (n := m) (by simp))
  have rb := hide (J8.out.at (g := w.heap.size + 1) (t := 24) (n := n) (by simp))
  have e0 := hide fun W => eqW 0 0 M_pos M_pos W
  rw [show decide (0 = 0) = true by decide] at e0
  by_cases hz : n = 0
  · subst hz
    have HD := hide fun W => div_zero m W
    go_upto_region 12 with (first | refine wpList_loadA AW rfl _ rfl w.heap.size rfl (wn m) (wn_size _) 24 ra.out ?_ | refine wpList_loadA AW rfl _ rfl (w.heap.size + 1) rfl (wn 0) (wn_size _) 24 rb.out ?_ | (go_at_call 21; refine (HD.out _).mono ?_; rintro e w9 ⟨rfl, be⟩; have J9 := hide ((J8.out.next be).two 24 0 0); clear be) | refine wpList_allocA AW rfl rfl ?_ | refine wpList_storeA AW rfl _ _ rfl _ (wn 0) (wn_size _) (wn_one _) rfl rfl (wn 0) (wn_size _) 24 (blk2x w9 (.cells (wn 0) 24) (.cells (wn 0) 24)).1 ?_ | refine wpList_storeA AW rfl _ _ rfl _ (wn 0) (wn_size _) (wn_one _) rfl rfl (wn 0) (wn_size _) 24 (blk2s w9 (.cells (wn 0) 24) (.cells (wn 0) 24) (wn 0)) ?_)
    try simp only [Act.put, List.setIfInBounds_toArray, List.set_cons_succ, List.set_cons_zero, hsz]
    generalize (((w9.alloc (.cells (wn 0) 24)).alloc (.cells (wn 0) 24)).setRow w9.heap.size (wn 0)).setRow (w9.heap.size + 1) (wn 0) = W9 at *
    generalize w9.heap.size = g17 at *
    clear J8 ra rb HD
    have rb := hide (J9.out.at (g := w.heap.size + 1) (t := 24) (n := 0) (by simp))
    have rq := hide (J9.out.at (g := g17) (t := 24) (n := 0) (by simp))
    have rr := hide (J9.out.at (g := g17 + 1) (t := 24) (n := 0) (by simp))
    go_wp2_with (first | refine wpList_loadW AW rfl _ rfl (w.heap.size + 1) rfl (wn 0) (wn_size _) 24 rb.out ?_ | refine wpList_loadW AW rfl _ rfl g17 rfl (wn 0) (wn_size _) 24 rq.out ?_ | refine wpList_loadW AW rfl _ rfl (g17 + 1) rfl (wn 0) (wn_size _) 24 rr.out ?_ | refine wpList_build0 AW rfl rfl ?_ | refine wpList_eql 24 _ _ _ rfl (wn 0) (wn 0) rfl rfl rfl eqgW true e0.out ?_)
    go_ret
    exact ⟨rfl, J9.out.bel⟩
  · have HD := hide fun W => div_any m n HM.out.1 (by omega) HM.out.2 W
    have HD2 := hide fun W => rdiv_any m n HM.out.1 (by omega) HM.out.2 W
    have hq : m / n < M := Nat.lt_of_le_of_lt (Nat.div_le_self _ _) HM.out.1
    have hr : m % n < M := Nat.lt_of_le_of_lt (Nat.mod_le _ _) HM.out.1
    have eq := hide fun W => eqW _ _ hq hq W
    rw [show decide (m / n = m / n) = true by simp] at eq
    have er := hide fun W => eqW _ _ hr hr W
    rw [show decide (m % n = m % n) = true by simp] at er
    have en := hide fun W => eqW n 0 HM.out.2 M_pos W
    rw [show decide (n = 0) = false by simp [hz]] at en
    generalize m / n = Q at *
    generalize m % n = R at *
    clear hz hq hr e0 eZ
    go_upto_region 12 with (first | refine wpList_loadA AW rfl _ rfl w.heap.size rfl (wn m) (wn_size _) 24 ra.out ?_ | refine wpList_loadA AW rfl _ rfl (w.heap.size + 1) rfl (wn n) (wn_size _) 24 rb.out ?_ | (go_at_call 21; refine (HD.out _).mono ?_; rintro e w9 ⟨rfl, be⟩; have J9 := hide ((J8.out.next be).two 24 Q R); clear be) | refine wpList_allocA AW rfl rfl ?_ | refine wpList_storeA AW rfl _ _ rfl _ (wn Q) (wn_size _) (wn_one _) rfl rfl (wn 0) (wn_size _) 24 (blk2x w9 (.cells (wn 0) 24) (.cells (wn 0) 24)).1 ?_ | refine wpList_storeA AW rfl _ _ rfl _ (wn R) (wn_size _) (wn_one _) rfl rfl (wn 0) (wn_size _) 24 (blk2s w9 (.cells (wn 0) 24) (.cells (wn 0) 24) (wn Q)) ?_)
    try simp only [Act.put, List.setIfInBounds_toArray, List.set_cons_succ, List.set_cons_zero, hsz]
    generalize (((w9.alloc (.cells (wn 0) 24)).alloc (.cells (wn 0) 24)).setRow w9.heap.size (wn Q)).setRow (w9.heap.size + 1) (wn R) = W9 at *
    generalize w9.heap.size = g17 at *
    clear J8 ra rb HD
    have ra := hide (J9.out.at (g := w.heap.size) (t := 24) (n := m) (by simp))
    have rb := hide (J9.out.at (g := w.heap.size + 1) (t := 24) (n := n) (by simp))
    go_upto_region 15 with (first | refine wpList_loadW AW rfl _ rfl w.heap.size rfl (wn m) (wn_size _) 24 ra.out ?_ | refine wpList_loadW AW rfl _ rfl (w.heap.size + 1) rfl (wn n) (wn_size _) 24 rb.out ?_ | refine wpList_build0 AW rfl rfl ?_ | refine wpList_eql 24 _ _ _ rfl (wn n) (wn 0) rfl rfl rfl eqgW false en.out ?_ | (go_at_call 22; refine (HD2.out _).mono ?_; rintro e w10 ⟨rfl, be⟩; have J10 := hide ((J9.out.next be).two 23 Q R); clear be) | refine wpList_allocA AR rfl rfl ?_ | refine wpList_storeA AR rfl _ _ rfl _ (wn Q) (wn_size _) (wn_one _) rfl rfl (wn 0) (wn_size _) 23 (blk2x w10 (.cells (wn 0) 23) (.cells (wn 0) 23)).1 ?_ | refine wpList_storeA AR rfl _ _ rfl _ (wn R) (wn_size _) (wn_one _) rfl rfl (wn 0) (wn_size _) 23 (blk2s w10 (.cells (wn 0) 23) (.cells (wn 0) 23) (wn Q)) ?_)
    try simp only [Act.put, List.setIfInBounds_toArray, List.set_cons_succ, List.set_cons_zero, hsz]
    generalize (((w10.alloc (.cells (wn 0) 23)).alloc (.cells (wn 0) 23)).setRow w10.heap.size (wn Q)).setRow (w10.heap.size + 1) (wn R) = W10 at *
    generalize w10.heap.size = g20 at *
    clear J9 ra rb HD2
    have rq := hide (J10.out.at (g := g17) (t := 24) (n := Q) (by simp))
    have rr := hide (J10.out.at (g := g17 + 1) (t := 24) (n := R) (by simp))
    have rq2 := hide (J10.out.at (g := g20) (t := 23) (n := Q) (by simp))
    have rr2 := hide (J10.out.at (g := g20 + 1) (t := 23) (n := R) (by simp))
    go_wp2_with (first | refine wpList_loadW AW rfl _ rfl g17 rfl (wn Q) (wn_size _) 24 rq.out ?_ | refine wpList_loadW AW rfl _ rfl (g17 + 1) rfl (wn R) (wn_size _) 24 rr.out ?_ | refine wpList_loadW AR rfl _ rfl g20 rfl (wn Q) (wn_size _) 23 rq2.out ?_ | refine wpList_loadW AR rfl _ rfl (g20 + 1) rfl (wn R) (wn_size _) 23 rr2.out ?_ | refine wpList_eql 24 _ _ _ rfl (wn Q) (wn Q) rfl rfl rfl eqgW true eq.out ?_ | refine wpList_eql 24 _ _ _ rfl (wn R) (wn R) rfl rfl rfl eqgW true er.out ?_)
    go_ret
    exact ⟨rfl, J10.out.bel⟩
end
end Go.Proofs.Ytmgoecgpdceppaa
