/- Rows of any cells in a world, and classes of worlds that have them. The contracts of the document's Limit and Expand, Meets. The contract of the document's Sub. Regions that draw their order, with calls, new rows and stores into them: what is known of the rows in every order. The contracts of target.share and target.Work. -/
import Derived.Test.YtofddbjnncgmlaaGreatDoorX18
import Derived.Test.YtofddbjnncgmlaaGreatDoorX20
import Derived.Test.YtofddbjnncgmlaaGreatDoorX17
namespace Go.Proofs.YtofddbjnncgmlaaGreatDoor
open Go.RowKit
open Go.Deep
/-- Rows of cells: place, type, cells. -/
structure Rc (w W : World) (l : List (Nat × TypeId × Array Value)) : Prop where
  row : ∀ p ∈ l, W.heap[p.1]? = some (.cells p.2.2 p.2.1 (0, 0))
  bel : Below w.heap.size w W
section
variable {w W W' : World} {l : List (Nat × TypeId × Array Value)} {g : Nat} {t : TypeId} {c : Array Value}
theorem Rc.at (j : Rc w W l) (h : (g, t, c) ∈ l) : W.heap[g]? = some (.cells c t (0, 0)) := j.row _ h
theorem Rc.next (j : Rc w W l) (h : Below W.heap.size W W') : Rc w W' l := ⟨fun p hp => (h.block _ (lt_heap (j.row p hp))).trans (j.row p hp), below_next j.bel h⟩
theorem Rc.drew (j : Rc w W l) : Rc w W.drew l := ⟨j.row, j.bel.drew⟩
theorem Rc.cons (j : Rc w W l) (h : W.heap[g]? = some (.cells c t (0, 0))) : Rc w W ((g, t, c) :: l) := by
  refine ⟨fun p hp => ?_, j.bel⟩
  rcases List.mem_cons.1 hp with rfl | h2
  · exact h
  · exact j.row p h2
theorem Rc.new (j : Rc w W l) (t : TypeId) (c : Array Value) : Rc w (W.alloc (.cells c t)) ((W.heap.size, t, c) :: l) := (j.next (below_allocZ W _)).cons (heap_alloc_last _ _)
theorem Rc.nil (w : World) : Rc w w [] := ⟨fun p hp => absurd hp (by simp), Below.refl _ _⟩
theorem Rc.start1 (w : World) (t : TypeId) (c : Array Value) : Rc w (w.alloc (.cells c t)) [(w.heap.size, t, c)] := (Rc.nil w).new t c
theorem Rc.start2 (w : World) (t t' : TypeId) (c d : Array Value) : Rc w ((w.alloc (.cells c t)).alloc (.cells d t')) [(w.heap.size + 1, t', d), (w.heap.size, t, c)] := by
  have := (Rc.start1 w t c).new t' d
  rw [show (w.alloc (.cells c t)).heap.size = w.heap.size + 1 by simp] at this
  exact this
/-- Worlds in which these rows lie, as a class. -/
theorem Rc.cls (j : Rc w W l) : ∃ (I : Type) (_ : Nonempty I) (F : I → World) (i0 : I), W.drew = F i0 ∧ Hid (∀ i, Rc w (F i) l) ∧ Hid (∀ i W', Below (F i).heap.size (F i) W' → ∃ j, W' = F j) :=
  ⟨{W : World // Rc w W l}, ⟨⟨_, j⟩⟩, Subtype.val, ⟨W.drew, j.drew⟩, rfl, fun i => i.2, fun i W' b => ⟨⟨W', i.2.next b⟩, rfl⟩⟩
theorem Rc.of {I : Type} {F : I → World} (hJ : Hid (∀ i, Rc w (F i) l)) (h : (g, t, c) ∈ l) (W : World) (hC : ∃ i, W = F i) : W.heap[g]? = some (.cells c t (0, 0)) := by
  obtain ⟨i, rfl⟩ := hC
  exact (hJ.out i).at h
theorem Rc.put {l' : List (Nat × TypeId × Array Value)} (j : Rc w W l) (g : Nat) (t : TypeId) (c : Array Value) (h : ∃ y, (g, t, y) ∈ l) (hg : w.heap.size ≤ g) (hl : ∀ p ∈ l', p = (g, t, c) ∨ (p ∈ l ∧ p.1 ≠ g)) : Rc w (W.setRow g c) l' := by
  obtain ⟨y, hy⟩ := h
  refine ⟨fun p hp => ?_, below_setRow j.bel hg _⟩
  rcases hl p hp with rfl | ⟨h1, h2⟩
  · exact setRow_heap _ _ _ _ _ _ (j.at hy)
  · exact (setRow_other _ _ _ _ h2).trans (j.row p h1)
end
end Go.Proofs.YtofddbjnncgmlaaGreatDoor
namespace Go.Proofs.YtofddbjnncgmlaaGreatDoor
open Go.RowKit
open Go.Deep
theorem Lm_MB : Lm < MB := by decide +kernel
section
set_option maxRecDepth 10000
set_option maxHeartbeats 2000000
theorem limitN_any (w : World) : Calls Tryz.prog 264 #[] w fun e w' => e = .returned (.agg (bn Lm)) ∧ Below w.heap.size w w' := by
  have HS : Hid (∀ W, Calls Tryz.prog 262 #[.int .u32 545259519] W fun e w' => e = .returned (.tuple #[.agg (bn Lm), .bool true]) ∧ Below W.heap.size W w') := fun W => by
    have := raw_any 545259519 (by decide) W
    rw [Lm_eq, if_pos Lm_MB, show decide (Lm < MB) = true by simp [Lm_MB]] at this
    exact this
  have J0 := hide (Rc.start1 w 180 (bn 0))
  generalize Lm = L at *
  go_enter Tryz.func264, Tryz.ntmps264
  go_upto_region 1 with (refine wpList_allocA AN rfl rfl ?_)
  generalize w.alloc (.cells (bn 0) 180) = W0 at *
  go_upto_region 2 with (first | (go_at_call 262; refine (HS.out _).mono ?_; rintro e w1 ⟨rfl, b1⟩; have J1 := hide ((J0.out.next b1).new 180 (bn L)); clear b1) | refine wpList_allocA AN rfl rfl ?_ | refine wpList_store_newA AN rfl _ _ rfl _ rfl (bn L) (bn_size _) (bn_one _) rfl rfl ?_)
  generalize w1.alloc (.cells (bn L) 180) = W1 at *
  generalize w1.heap.size = g1 at *
  have r1 := hide (J1.out.at (g := g1) (t := 180) (c := bn L) (by simp))
  have r0 := hide (J1.out.at (g := w.heap.size) (t := 180) (c := bn 0) (by simp))
  go_wp2_with (first | refine wpList_loadA AN rfl _ rfl g1 rfl (bn L) (bn_size _) 180 r1.out ?_ | refine wpList_storeA AN rfl _ _ rfl _ (bn L) (bn_size _) (bn_one _) rfl rfl (bn 0) (bn_size 0) 180 r0.out ?_)
  exact bodyPost_ret (v := .agg (bn L)) (resA AN Tryz.results264 _ _ w.heap.size 180 (bn L) (bn_size _) rfl (setRow_heap _ _ _ _ _ _ r0.out)) rfl ⟨rfl, below_setRow J1.out.bel (Nat.le_refl _) _⟩
/-- Expand, by what its four tests say. -/
theorem expandN_core (b : Nat) (hb : b < 4294967296) (A : Nat) (hA : A < MB) (ok sg zb gt : Bool) (hAe : (if tgt b < MB then tgt b else 0) = A) (hok : decide (tgt b < MB) = ok) (hsg : decide (b / 8388608 % 2 = 1) = sg) (hzb : decide (A = 0) = zb) (hgt : decide (Lm < A) = gt) (w : World) :
    Calls Tryz.prog 178 #[.int .u32 (b : Int)] w fun e w' => e = .returned (if !ok || sg || zb || gt then .tuple #[.agg (bn 0), .bool false] else .tuple #[.agg (bn A), .bool true]) ∧ Below w.heap.size w w' := by
  have HS := hide fun W => raw_any b hb W
  rw [hok, hAe] at HS
  have hand := and_bit b hb
  rw [hsg] at hand
  have HZ := hide fun W => zeroN_any _ hA W
  rw [hzb] at HZ
  have HL := hide fun W => limitN_any W
  have HC := hide fun W => less_any _ _ Lm_MB hA W
  rw [hgt] at HC
  have J0 := hide (Rc.start1 w 180 (bn 0))
  generalize Lm = L at *
  clear hok hsg hzb hA hb hAe hgt
  go_enter Tryz.func178, Tryz.ntmps178
  go_upto_region 1 with (refine wpList_allocA AN rfl rfl ?_)
  generalize w.alloc (.cells (bn 0) 180) = W0 at *
  go_upto_region 2 with (first | (go_at_call 262; refine (HS.out _).mono ?_; rintro e w1 ⟨rfl, be⟩; have J1 := hide ((J0.out.next be).new 180 (bn A)); clear be) | refine wpList_allocA AN rfl rfl ?_ | refine wpList_store_newA AN rfl _ _ rfl _ rfl (bn A) (bn_size _) (bn_one _) rfl rfl ?_)
  generalize w1.alloc (.cells (bn A) 180) = W1 at *
  generalize w1.heap.size = g4 at *
  clear J0 HS
  have hc : ok = false ∨ (ok = true ∧ sg = true) ∨ (ok = true ∧ sg = false ∧ zb = true) ∨ (ok = true ∧ sg = false ∧ zb = false ∧ gt = true) ∨ (ok = true ∧ sg = false ∧ zb = false ∧ gt = false) := by
    cases ok <;> cases sg <;> cases zb <;> cases gt <;> simp
  obtain ⟨I, hne, F, i0, h0, hJ, hcl⟩ := J1.out.cls
  rcases hc with rfl | ⟨rfl, rfl⟩ | ⟨rfl, rfl, rfl⟩ | ⟨rfl, rfl, rfl, rfl⟩ | ⟨rfl, rfl, rfl, rfl⟩
  all_goals
    refine wp_region_class_lit (by kernel_rfl) (by kernel_rfl) i0 h0 ?_
    repeat (first | ((go_big_quiet_want; refine quiet_loadA AN _ (by rfl) g4 (by rfl) (bn A) (bn_size _) 180 (Rc.of hJ (by simp)) ?_); go_big_quiet_on; simp only [Act.put, List.setIfInBounds_toArray, List.set_cons_succ, List.set_cons_zero]) | go_big_quiet_step (first | (go_at_call 263; exact class_of hcl.out (HZ.out _)) | (go_at_call 264; exact class_of hcl.out (HL.out _)) | (go_at_call 180; exact class_of hcl.out (HC.out _))))
    refine wpQuiet_nil ?_
    rintro _ ⟨iq, rfl⟩
    have J2 := hide (hJ.out iq)
    clear hJ hcl h0 HZ HL HC
    generalize F iq = W2 at *
    have r2 := hide (J2.out.at (g := w.heap.size) (t := 180) (c := bn 0) (by simp))
    have r4 := hide (J2.out.at (g := g4) (t := 180) (c := bn A) (by simp))
  iterate 4
    · go_wp2_with (first | refine wpList_buildA AN rfl rfl ?_ | refine wpList_storeA AN rfl _ _ rfl _ (bn 0) (bn_size _) (bn_one _) rfl rfl (bn 0) (bn_size 0) 180 r2.out ?_)
      exact bodyPost_ret (v := .tuple #[.agg (bn 0), .bool false]) (resA2 AN Tryz.results178 _ _ w.heap.size 180 (bn 0) (bn_size _) rfl (setRow_heap _ _ _ _ _ _ r2.out) _ (by rfl)) rfl ⟨rfl, below_setRow J2.out.bel (Nat.le_refl _) _⟩
  · go_wp2_with (first | refine wpList_loadA AN rfl _ rfl g4 rfl (bn A) (bn_size _) 180 r4.out ?_ | refine wpList_storeA AN rfl _ _ rfl _ (bn A) (bn_size _) (bn_one _) rfl rfl (bn 0) (bn_size 0) 180 r2.out ?_)
    exact bodyPost_ret (v := .tuple #[.agg (bn A), .bool true]) (resA2 AN Tryz.results178 _ _ w.heap.size 180 (bn A) (bn_size _) rfl (setRow_heap _ _ _ _ _ _ r2.out) _ (by rfl)) rfl ⟨rfl, below_setRow J2.out.bel (Nat.le_refl _) _⟩
end
/-- What Expand tells: the target where it may be, else 0. -/
def xt (b : Nat) : Nat := if okB b then tgt b else 0
theorem okB_iff (b : Nat) : okB b = true ↔ b / 8388608 % 2 = 0 ∧ 0 < tgt b ∧ tgt b ≤ Lm := by
  unfold okB
  simp only [Bool.and_eq_true, decide_eq_true_eq]
  omega
theorem xt_le (b : Nat) : xt b ≤ Lm := by
  unfold xt
  split
  · rename_i h
    exact ((okB_iff b).1 h).2.2
  · exact Nat.zero_le _
theorem expandN_any (b : Nat) (hb : b < 4294967296) (w : World) : Calls Tryz.prog 178 #[.int .u32 (b : Int)] w fun e w' => e = .returned (.tuple #[.agg (bn (xt b)), .bool (okB b)]) ∧ Below w.heap.size w w' := by
  have hL := Lm_MB
  have hA : (if tgt b < MB then tgt b else 0) < MB := by
    split
    · assumption
    · exact MB_pos
  have := expandN_core b hb _ hA _ _ _ _ rfl rfl rfl rfl rfl w
  unfold xt
  cases h : okB b
  · rw [if_pos] at this
    · exact this
    · have h2 : ¬ (b / 8388608 % 2 = 0 ∧ 0 < tgt b ∧ tgt b ≤ Lm) := fun h' => by rw [(okB_iff b).2 h'] at h; cases h
      simp only [Bool.or_eq_true, Bool.not_eq_true', decide_eq_false_iff_not, decide_eq_true_eq]
      by_cases h1 : tgt b < MB
      · rw [if_pos h1]
        omega
      · exact .inl (.inl (.inl h1))
  · have h2 := (okB_iff b).1 h
    rw [if_neg, if_pos (show tgt b < MB by omega)] at this
    · exact this
    · simp only [Bool.or_eq_true, Bool.not_eq_true', decide_eq_false_iff_not, decide_eq_true_eq]
      rw [if_pos (show tgt b < MB by omega)]
      omega
theorem expand_any (b : Nat) (hb : b < 4294967296) (w : World) : Calls Tryz.prog 81 #[.int .u32 (b : Int)] w fun e w' => e = .returned (.tuple #[.agg (wn (xt b)), .int .i64 (if okB b then 0 else 50)]) ∧ Below w.heap.size w w' := by
  unfold xt
  cases h : okB b
  · exact expand_no b hb h w
  · exact expand_yes b hb h w
end Go.Proofs.YtofddbjnncgmlaaGreatDoor
namespace Go.Proofs.YtofddbjnncgmlaaGreatDoor
open Go.RowKit
open Go.Deep
theorem sub_words (m n : Nat) (hn : n < M) : wn ((m + (M - 1 - n)) % M + 1) = wn (df m n) := by
  rw [← wn_mod ((m + (M - 1 - n)) % M + 1), Nat.mod_add_mod, df, show m + (M - 1 - n) + 1 = m + M - n by omega, wn_mod]
theorem cmp_neg (m n : Nat) : (cmpZ m n < 0) = (m < n) := by
  apply propext
  unfold cmpZ
  split
  · simp; omega
  · split <;> simp <;> omega
/-- Two numbers, an answer's place, and a number at g. -/
structure Sb (w W : World) (t : TypeId) (m n g x : Nat) : Prop where
  a : W.heap[w.heap.size]? = some (.cells (wn m) t (0, 0))
  b : W.heap[w.heap.size + 1]? = some (.cells (wn n) t (0, 0))
  r : W.heap[w.heap.size + 1 + 1]? = some (.cells (wn 0) t (0, 0))
  o : W.heap[g]? = some (.cells (wn x) t (0, 0))
  lt : w.heap.size + 1 + 1 < g
  bel : Below w.heap.size w W
section
variable {w W W' : World} {t : TypeId} {m n g x : Nat}
theorem Sb.next (j : Sb w W t m n g x) (h : Below W.heap.size W W') : Sb w W' t m n g x :=
  ⟨(h.block _ (lt_heap j.a)).trans j.a, (h.block _ (lt_heap j.b)).trans j.b, (h.block _ (lt_heap j.r)).trans j.r, (h.block _ (lt_heap j.o)).trans j.o, j.lt, below_next j.bel h⟩
theorem Sb.drew (j : Sb w W t m n g x) : Sb w W.drew t m n g x := ⟨j.a, j.b, j.r, j.o, j.lt, j.bel.drew⟩
theorem Sb.put (j : Sb w W t m n g x) (y : Nat) : Sb w (W.setRow g (wn y)) t m n g y := by
  have := j.lt
  exact ⟨(setRow_other _ _ _ _ (by omega)).trans j.a, (setRow_other _ _ _ _ (by omega)).trans j.b, (setRow_other _ _ _ _ (by omega)).trans j.r, setRow_heap _ _ _ _ _ _ j.o, j.lt, below_setRow j.bel (by omega) _⟩
theorem Sb.three (w : World) (t : TypeId) (m n : Nat) : (((w.alloc (.cells (wn m) t)).alloc (.cells (wn n) t)).alloc (.cells (wn 0) t)).heap[w.heap.size]? = some (.cells (wn m) t (0, 0)) ∧ (((w.alloc (.cells (wn m) t)).alloc (.cells (wn n) t)).alloc (.cells (wn 0) t)).heap[w.heap.size + 1]? = some (.cells (wn n) t (0, 0)) ∧ (((w.alloc (.cells (wn m) t)).alloc (.cells (wn n) t)).alloc (.cells (wn 0) t)).heap[w.heap.size + 1 + 1]? = some (.cells (wn 0) t (0, 0)) ∧ Below w.heap.size w (((w.alloc (.cells (wn m) t)).alloc (.cells (wn n) t)).alloc (.cells (wn 0) t)) := by
  obtain ⟨e1, e2, e3⟩ := blk3 w (.cells (wn m) t) (.cells (wn n) t) (.cells (wn 0) t)
  exact ⟨e1, e2, e3, below3 w _ _ _⟩
/-- Three rows. -/
structure S3 (w W : World) (t : TypeId) (m n : Nat) : Prop where
  a : W.heap[w.heap.size]? = some (.cells (wn m) t (0, 0))
  b : W.heap[w.heap.size + 1]? = some (.cells (wn n) t (0, 0))
  r : W.heap[w.heap.size + 1 + 1]? = some (.cells (wn 0) t (0, 0))
  bel : Below w.heap.size w W
theorem S3.next (j : S3 w W t m n) (h : Below W.heap.size W W') : S3 w W' t m n :=
  ⟨(h.block _ (lt_heap j.a)).trans j.a, (h.block _ (lt_heap j.b)).trans j.b, (h.block _ (lt_heap j.r)).trans j.r, below_next j.bel h⟩
theorem S3.drew (j : S3 w W t m n) : S3 w W.drew t m n := ⟨j.a, j.b, j.r, j.bel.drew⟩
theorem S3.new (j : S3 w W t m n) (x : Nat) : Sb w (W.alloc (.cells (wn x) t)) t m n W.heap.size x := by
  have k := j.next ((Below.refl _ _).alloc (Nat.le_refl _) (.cells (wn x) t))
  exact ⟨k.a, k.b, k.r, heap_alloc_last _ _, lt_heap j.r, k.bel⟩
theorem S3.alloc (j : S3 w W t m n) (o : Obj) : S3 w (W.alloc o) t m n := j.next ((Below.refl _ _).alloc (Nat.le_refl _) _)
theorem S3.at (j : S3 w W t m n) (z : W.heap[g]? = some (.cells (wn x) t (0, 0))) (lt : w.heap.size + 1 + 1 < g) : Sb w W t m n g x := ⟨j.a, j.b, j.r, z, lt, j.bel⟩
theorem S3.lt (j : S3 w W t m n) : w.heap.size + 1 + 1 < W.heap.size := lt_heap j.r
theorem S3.start (w : World) (t : TypeId) (m n : Nat) : S3 w (((w.alloc (.cells (wn m) t)).alloc (.cells (wn n) t)).alloc (.cells (wn 0) t)) t m n := by
  obtain ⟨a, b, c, d⟩ := Sb.three w t m n
  exact ⟨a, b, c, d⟩
end
theorem zW_eq : wn 0 = #[.int .u64 0, .int .u64 0, .int .u64 0, .int .u64 0] := wn_small 0 (by decide)
theorem svR_new (W : World) (n : Nat) : (svR (.pointer (some ⟨W.heap.size, 0, none⟩)) (.agg (wn n))).run Tryz.prog (W.alloc (.cells #[.int .u64 0, .int .u64 0, .int .u64 0, .int .u64 0] 50)) = .ok () ((W.alloc (.cells #[.int .u64 0, .int .u64 0, .int .u64 0, .int .u64 0] 50)).setRow W.heap.size (wn n)) := by
  rw [← zW_eq]
  exact svR_row (heap_alloc_last W _) n
theorem svW_new (W : World) (n : Nat) : (svW (.pointer (some ⟨W.heap.size, 0, none⟩)) (.agg (wn n))).run Tryz.prog (W.alloc (.cells #[.int .u64 0, .int .u64 0, .int .u64 0, .int .u64 0] 51)) = .ok () ((W.alloc (.cells #[.int .u64 0, .int .u64 0, .int .u64 0, .int .u64 0] 51)).setRow W.heap.size (wn n)) := by
  rw [← zW_eq]
  exact svW_row (heap_alloc_last W _) n
attribute [local go_sem ↓] ldR_eq svR_eq
section
set_option maxRecDepth 10000
set_option maxHeartbeats 2000000
end
end Go.Proofs.YtofddbjnncgmlaaGreatDoor
namespace Go.Proofs.YtofddbjnncgmlaaGreatDoor
open Go.RowKit
open Go.Deep
theorem ldB {W0 Y : World} {N T : Nat} {t : TypeId} (hN : W0.heap[N]? = some (.cells (wn T) t (0, 0))) (B : Below W0.heap.size W0 Y) : (ldW (.pointer (some ⟨N, 0, none⟩))).run Tryz.prog Y = .ok (.agg (wn T)) Y := ldW_row ((B.block _ (lt_heap hN)).trans hN)
theorem bel_alloc {W0 Y : World} (B : Below W0.heap.size W0 Y) (o : Obj) : Below W0.heap.size W0 (Y.alloc o) := below_next B (below_allocZ Y o)
theorem bel_size {W0 Y : World} (B : Below W0.heap.size W0 Y) : W0.heap.size ≤ Y.heap.size := B.size
theorem bel_put {W0 Y : World} {g : Nat} (B : Below W0.heap.size W0 Y) (h : W0.heap.size ≤ g) (c : Array Value) : Below W0.heap.size W0 (Y.setRow g c) := below_setRow B h c
theorem Rs.cons {w W : World} {l : List (Nat × TypeId × Nat)} {g n : Nat} {t : TypeId} (j : Rs w W l) (h : W.heap[g]? = some (.cells (wn n) t (0, 0))) : Rs w W ((g, t, n) :: l) := by
  refine ⟨fun p hp => ?_, j.bel⟩
  rcases List.mem_cons.1 hp with rfl | h2
  · exact h
  · exact j.row p h2
theorem row_new (W : World) (n : Nat) : ((W.alloc (.cells #[.int .u64 0, .int .u64 0, .int .u64 0, .int .u64 0] 51)).setRow W.heap.size (wn n)).heap[W.heap.size]? = some (.cells (wn n) 51 (0, 0)) := by
  rw [← zW_eq]
  exact setRow_heap _ _ _ _ _ _ (heap_alloc_last W _)
/-- A row that was made ahead of a call is there behind it. -/
theorem zero_kept {W Y : World} (be : Below (W.alloc (.cells #[.int .u64 0, .int .u64 0, .int .u64 0, .int .u64 0] 51)).heap.size (W.alloc (.cells #[.int .u64 0, .int .u64 0, .int .u64 0, .int .u64 0] 51)) Y) : Y.heap[W.heap.size]? = some (.cells (wn 0) 51 (0, 0)) :=
  (be.block _ (by simp)).trans (by rw [zW_eq]; exact heap_alloc_last W _)
theorem zero_kept_drew {W Y : World} (be : Below (W.alloc (.cells #[.int .u64 0, .int .u64 0, .int .u64 0, .int .u64 0] 51)).drew.heap.size (W.alloc (.cells #[.int .u64 0, .int .u64 0, .int .u64 0, .int .u64 0] 51)).drew Y) : Y.heap[W.heap.size]? = some (.cells (wn 0) 51 (0, 0)) :=
  (be.block _ (by simp)).trans (by rw [zW_eq]; exact heap_alloc_last W _)
theorem row_kept {W Y : World} {g n : Nat} {t : TypeId} (z : W.heap[g]? = some (.cells (wn n) t (0, 0))) (be : Below W.heap.size W Y) : Y.heap[g]? = some (.cells (wn n) t (0, 0)) := (be.block _ (lt_heap z)).trans z
theorem zero_kept2 {W Y : World} (be : Below ((W.alloc (.cells #[.int .u64 0, .int .u64 0, .int .u64 0, .int .u64 0] 51)).alloc (.cells #[.int .u64 0, .int .u64 0, .int .u64 0, .int .u64 0] 51)).heap.size ((W.alloc (.cells #[.int .u64 0, .int .u64 0, .int .u64 0, .int .u64 0] 51)).alloc (.cells #[.int .u64 0, .int .u64 0, .int .u64 0, .int .u64 0] 51)) Y) : Y.heap[W.heap.size]? = some (.cells (wn 0) 51 (0, 0)) ∧ Y.heap[W.heap.size + 1]? = some (.cells (wn 0) 51 (0, 0)) := by
  rw [zW_eq]
  exact ⟨(be.block _ (by simp <;> omega)).trans (blk2x W _ _).1, (be.block _ (by simp <;> omega)).trans (blk2x W _ _).2⟩
theorem zero_kept2_drew {W Y : World} (be : Below ((W.alloc (.cells #[.int .u64 0, .int .u64 0, .int .u64 0, .int .u64 0] 51)).alloc (.cells #[.int .u64 0, .int .u64 0, .int .u64 0, .int .u64 0] 51)).drew.heap.size ((W.alloc (.cells #[.int .u64 0, .int .u64 0, .int .u64 0, .int .u64 0] 51)).alloc (.cells #[.int .u64 0, .int .u64 0, .int .u64 0, .int .u64 0] 51)).drew Y) : Y.heap[W.heap.size]? = some (.cells (wn 0) 51 (0, 0)) ∧ Y.heap[W.heap.size + 1]? = some (.cells (wn 0) 51 (0, 0)) := by
  rw [zW_eq]
  exact ⟨(be.block _ (by simp <;> omega)).trans (blk2x W _ _).1, (be.block _ (by simp <;> omega)).trans (blk2x W _ _).2⟩
/-- Two rows of zeros, into which two numbers are stored, in either order. -/
structure Tw (X : World) (gA gB Q R : Nat) : Prop where
  p1 : (svW (.pointer (some ⟨gA, 0, none⟩)) (.agg (wn Q))).run Tryz.prog X = .ok () (X.setRow gA (wn Q))
  p2 : (svW (.pointer (some ⟨gB, 0, none⟩)) (.agg (wn Q))).run Tryz.prog X = .ok () (X.setRow gB (wn Q))
  p3 : (svW (.pointer (some ⟨gB, 0, none⟩)) (.agg (wn R))).run Tryz.prog (X.setRow gA (wn Q)) = .ok () ((X.setRow gA (wn Q)).setRow gB (wn R))
  p4 : (svW (.pointer (some ⟨gA, 0, none⟩)) (.agg (wn R))).run Tryz.prog (X.setRow gB (wn Q)) = .ok () ((X.setRow gB (wn Q)).setRow gA (wn R))
  e1 : ((X.setRow gA (wn Q)).setRow gB (wn R)).heap[gA]? = some (.cells (wn Q) 51 (0, 0)) ∧ ((X.setRow gA (wn Q)).setRow gB (wn R)).heap[gB]? = some (.cells (wn R) 51 (0, 0))
  e2 : ((X.setRow gB (wn Q)).setRow gA (wn R)).heap[gB]? = some (.cells (wn Q) 51 (0, 0)) ∧ ((X.setRow gB (wn Q)).setRow gA (wn R)).heap[gA]? = some (.cells (wn R) 51 (0, 0))
theorem tw {X : World} {gA gB : Nat} (zA : X.heap[gA]? = some (.cells (wn 0) 51 (0, 0))) (zB : X.heap[gB]? = some (.cells (wn 0) 51 (0, 0))) (h : gA < gB) (Q R : Nat) : Tw X gA gB Q R := by
  have a1 : (X.setRow gA (wn Q)).heap[gB]? = some (.cells (wn 0) 51 (0, 0)) := (setRow_other _ _ _ _ (by omega)).trans zB
  have a2 : (X.setRow gB (wn Q)).heap[gA]? = some (.cells (wn 0) 51 (0, 0)) := (setRow_other _ _ _ _ (by omega)).trans zA
  exact ⟨svW_row zA Q, svW_row zB Q, svW_row a1 R, svW_row a2 R, ⟨(setRow_other _ _ _ _ (by omega)).trans (setRow_heap _ _ _ _ _ _ zA), setRow_heap _ _ _ _ _ _ a1⟩, ⟨(setRow_other _ _ _ _ (by omega)).trans (setRow_heap _ _ _ _ _ _ zB), setRow_heap _ _ _ _ _ _ a2⟩⟩
theorem tw_one {X : World} {gA : Nat} (zA : X.heap[gA]? = some (.cells (wn 0) 51 (0, 0))) (Q R : Nat) : Tw (X.alloc (.cells #[.int .u64 0, .int .u64 0, .int .u64 0, .int .u64 0] 51)) gA X.heap.size Q R := by
  rw [← zW_eq]
  exact tw ((Below.heap_alloc _ _ _ (lt_heap zA)).trans zA) (heap_alloc_last X _) (lt_heap zA) Q R
theorem tw_two (X : World) (Q R : Nat) : Tw ((X.alloc (.cells #[.int .u64 0, .int .u64 0, .int .u64 0, .int .u64 0] 51)).alloc (.cells #[.int .u64 0, .int .u64 0, .int .u64 0, .int .u64 0] 51)) X.heap.size (X.heap.size + 1) Q R := by
  rw [← zW_eq]
  exact tw (blk2x X _ _).1 (blk2x X _ _).2 (by omega) Q R
end Go.Proofs.YtofddbjnncgmlaaGreatDoor
namespace Go.Proofs.YtofddbjnncgmlaaGreatDoor
open Go.RowKit
open Go.Deep
attribute [local go_sem ↓] ldW_eq svW_eq
section
set_option maxRecDepth 10000
set_option maxHeartbeats 4000000
theorem share_any (T : Nat) (hT : T ≤ Lm) (w : World) : Calls Tryz.prog 144 #[.agg (wn T)] w fun e w' => e = .returned (.agg (wn ((M - 1 - T) / (T + 1) + 1))) ∧ Below w.heap.size w w' := by
  have hL : Lm + 1 < M := by decide +kernel
  have HF : Hid (∀ W, Calls Tryz.prog 240 #[.int .u64 1] W fun e w' => e = .returned (.agg (wn 1)) ∧ Below W.heap.size W w') := fun W => from_any 1 (by decide) W
  have HA := hide fun W => wadd_any T 1 (by omega) (by decide) W
  have HN := hide fun W => not_any T (by omega) W
  have HD := hide fun W => div_any (M - 1 - T) (T + 1) (by omega) (by omega) (by omega) W
  have hQ : (M - 1 - T) / (T + 1) < M := Nat.lt_of_le_of_lt (Nat.div_le_self _ _) (by omega)
  have HA2 := hide fun W => wadd_any ((M - 1 - T) / (T + 1)) 1 hQ (by decide) W
  have J0 : Hid (Rs w ((w.alloc (.cells (wn T) 51)).alloc (.cells (wn 0) 51)) [(w.heap.size + 1, 51, 0), (w.heap.size, 51, T)]) := Rs.start2 w 51 T 0
  generalize decide (M ≤ T + 1) = o1 at *
  generalize decide (M ≤ (M - 1 - T) / (T + 1) + 1) = o2 at *
  generalize (M - 1 - T) / (T + 1) + 1 = V at *
  generalize (M - 1 - T) / (T + 1) = Q at *
  generalize (M - 1 - T) % (T + 1) = R at *
  generalize M - 1 - T = U at *
  generalize T + 1 = D at *
  clear hT hL hQ
  go_enter Tryz.func144, Tryz.ntmps144
  go_upto_region 1 with (first | refine wpList_boxA rfl _ rfl (wn T) rfl ?_ | refine wpList_allocA AW rfl rfl ?_)
  generalize (w.alloc (.cells (wn T) 51)).alloc (.cells (wn 0) 51) = W0 at *
  try simp only [Act.put, List.setIfInBounds_toArray, List.set_cons_succ, List.set_cons_zero, hsz]
  have rT := hide (J0.out.at (g := w.heap.size) (t := 51) (n := T) (by simp))
  go_cut [3, 4] from 10 to 15 (fun s3 s4 wx => ∃ g, s3 = .pointer (some ⟨g, 0, none⟩) ∧ s4 = .bool o1 ∧ Hid (Rs w wx [(g, 51, D), (w.heap.size + 1, 51, 0), (w.heap.size, 51, T)]))
  case first =>
    have l0 := ldB (Y := W0.drew) rT.out (Below.refl _ _).drew
    go_region_held3 (fun w' => Below W0.heap.size W0 w' ∧ (ldW (.pointer (some ⟨w.heap.size, 0, none⟩))).run Tryz.prog w' = .ok (.agg (wn T)) w') (first | exact ⟨(Below.refl _ _).drew, ldB rT.out (Below.refl _ _).drew⟩ | exact (fun hb => ⟨hb, ldB rT.out hb⟩) (below_next (And.left (by assumption)) be) | exact (fun hb => ⟨hb, ldB rT.out hb⟩) (bel_alloc (And.left (by assumption)) _) | exact (fun hb => ⟨hb, ldB rT.out hb⟩) (bel_put (And.left (by assumption)) (by first | exact Nat.le_refl _ | exact sz1.out | exact sz2.out) _)) (first | (go_at_call 240; refine (HF.out _).mono ?_; rintro e w1 ⟨rfl, be⟩; have sz1 : Hid (W0.heap.size ≤ w1.heap.size) := bel_size (below_next (And.left (by assumption)) be); (try have z1 := hide (zero_kept_drew be)); (try have z1 := hide (zero_kept be))) | (go_at_call 177; refine (HA.out _).mono ?_; rintro e w2 ⟨rfl, be⟩; have sz2 : Hid (W0.heap.size ≤ w2.heap.size) := bel_size (below_next (And.left (by assumption)) be); (try have z2 := hide (row_kept z1.out be)); (try have z2 := hide (zero_kept be)); (first | have s1 := svW_row z2.out D | have s1 := svW_new w2 D)))
    all_goals (go_wp2_with fail; go_meet; first | exact ⟨_, rfl, rfl, (J0.out.next (And.left (by assumption))).cons (row_new _ _)⟩ | exact ⟨_, rfl, rfl, (J0.out.next (And.left (by assumption))).cons (setRow_heap _ _ _ _ _ _ z2.out)⟩)
  obtain ⟨g, rfl, rfl, J1⟩ := hcut
  have rT := hide (J1.out.at (g := w.heap.size) (t := 51) (n := T) (by simp))
  have rD := hide (J1.out.at (g := g) (t := 51) (n := D) (by simp))
  clear J0
  generalize wc = W1 at *
  go_upto_region 2 with fail
  go_cut [5, 6, 7] from 16 to 23 (fun s5 s6 s7 wx => ∃ g5 g6, s5 = .pointer (some ⟨g5, 0, none⟩) ∧ s6 = .pointer (some ⟨g6, 0, none⟩) ∧ s7 = .int .i64 0 ∧ Hid (Rs w wx [(g5, 51, Q), (w.heap.size + 1, 51, 0), (w.heap.size, 51, T)]))
  case first =>
    have J2 : Hid (Rs w W1 [(w.heap.size + 1, 51, 0), (w.heap.size, 51, T)]) := ⟨fun p hp => J1.out.row p (List.mem_cons_of_mem _ hp), J1.out.bel⟩
    go_region_held3 (fun w' => Below W1.heap.size W1 w' ∧ (ldW (.pointer (some ⟨w.heap.size, 0, none⟩))).run Tryz.prog w' = .ok (.agg (wn T)) w' ∧ (ldW (.pointer (some ⟨g, 0, none⟩))).run Tryz.prog w' = .ok (.agg (wn D)) w') (first | exact (fun hb => ⟨hb, ldB rT.out hb, ldB rD.out hb⟩) ((Below.refl _ _).drew) | exact (fun hb => ⟨hb, ldB rT.out hb, ldB rD.out hb⟩) (below_next (And.left (by assumption)) be) | exact (fun hb => ⟨hb, ldB rT.out hb, ldB rD.out hb⟩) (bel_alloc (And.left (by assumption)) _) | exact (fun hb => ⟨hb, ldB rT.out hb, ldB rD.out hb⟩) (bel_put (And.left (by assumption)) (by first | exact Nat.le_refl _ | exact Nat.le_succ _ | exact sz1.out | exact sz2.out | exact Nat.le_succ_of_le sz1.out | exact Nat.le_succ_of_le sz2.out) _)) (first | (go_at_call 242; refine (HN.out _).mono ?_; rintro e w1 ⟨rfl, be⟩; have sz1 : Hid (W1.heap.size ≤ w1.heap.size) := bel_size (below_next (And.left (by assumption)) be); (try have z1 := hide (zero_kept_drew be)); (try have y1 := hide (zero_kept2_drew be))) | (go_at_call 241; refine (HD.out _).mono ?_; rintro e w2 ⟨rfl, be⟩; have sz2 : Hid (W1.heap.size ≤ w2.heap.size) := bel_size (below_next (And.left (by assumption)) be); (first | have TW := tw (row_kept y1.out.1 be) (row_kept y1.out.2 be) (Nat.lt_succ_self _) Q R | have TW := tw (zero_kept2 be).1 (zero_kept2 be).2 (Nat.lt_succ_self _) Q R | have TW := tw (row_kept z1.out (below_next (below_allocZ _ _) be)) (zero_kept be) (lt_heap z1.out) Q R | have TW := tw_one (zero_kept be) Q R | have TW := tw_one (row_kept z1.out be) Q R | have TW := tw_two w2 Q R); have p1 := TW.p1; have p2 := TW.p2; have p3 := TW.p3; have p4 := TW.p4; have HTW := hide TW; clear TW))
    all_goals (go_wp2_with fail; go_meet; first | exact ⟨_, _, rfl, rfl, rfl, (J2.out.next (And.left (by assumption))).cons HTW.out.e1.1⟩ | exact ⟨_, _, rfl, rfl, rfl, (J2.out.next (And.left (by assumption))).cons HTW.out.e2.1⟩)
  obtain ⟨g5, g6, rfl, rfl, rfl, J2⟩ := hcut
  have rQ := hide (J2.out.at (g := g5) (t := 51) (n := Q) (by simp))
  clear J1 rT rD HN HD HA
  generalize wc = W2 at *
  go_upto_region 3 with fail
  go_cut [8, 9] from 24 to 29 (fun s8 s9 wx => ∃ g8, s8 = .pointer (some ⟨g8, 0, none⟩) ∧ s9 = .bool o2 ∧ Hid (Rs w wx [(g8, 51, V), (g5, 51, Q), (w.heap.size + 1, 51, 0), (w.heap.size, 51, T)]))
  case first =>
    go_region_held3 (fun w' => Below W2.heap.size W2 w' ∧ (ldW (.pointer (some ⟨g5, 0, none⟩))).run Tryz.prog w' = .ok (.agg (wn Q)) w') (first | exact (fun hb => ⟨hb, ldB rQ.out hb⟩) ((Below.refl _ _).drew) | exact (fun hb => ⟨hb, ldB rQ.out hb⟩) (below_next (And.left (by assumption)) be) | exact (fun hb => ⟨hb, ldB rQ.out hb⟩) (bel_alloc (And.left (by assumption)) _) | exact (fun hb => ⟨hb, ldB rQ.out hb⟩) (bel_put (And.left (by assumption)) (by first | exact Nat.le_refl _ | exact sz1.out | exact sz2.out) _)) (first | (go_at_call 240; refine (HF.out _).mono ?_; rintro e w1 ⟨rfl, be⟩; have sz1 : Hid (W2.heap.size ≤ w1.heap.size) := bel_size (below_next (And.left (by assumption)) be); (try have z1 := hide (zero_kept_drew be)); (try have z1 := hide (zero_kept be))) | (go_at_call 177; refine (HA2.out _).mono ?_; rintro e w2 ⟨rfl, be⟩; have sz2 : Hid (W2.heap.size ≤ w2.heap.size) := bel_size (below_next (And.left (by assumption)) be); (try have z2 := hide (row_kept z1.out be)); (try have z2 := hide (zero_kept be)); (first | have s1 := svW_row z2.out V | have s1 := svW_new w2 V)))
    all_goals (go_wp2_with fail; go_meet; first | exact ⟨_, rfl, rfl, (J2.out.next (And.left (by assumption))).cons (row_new _ _)⟩ | exact ⟨_, rfl, rfl, (J2.out.next (And.left (by assumption))).cons (setRow_heap _ _ _ _ _ _ z2.out)⟩)
  obtain ⟨g8, rfl, rfl, J3⟩ := hcut
  have rV := hide (J3.out.at (g := g8) (t := 51) (n := V) (by simp))
  have rr := hide (J3.out.at (g := w.heap.size + 1) (t := 51) (n := 0) (by simp))
  go_wp2_with (first | refine wpList_loadA AW rfl _ rfl g8 rfl (wn V) (wn_size _) 51 rV.out ?_ | refine wpList_storeA AW rfl _ _ rfl _ (wn V) (wn_size _) (wn_one _) rfl rfl (wn 0) (wn_size 0) 51 rr.out ?_)
  exact bodyPost_ret (v := .agg (wn V)) (resA AW Tryz.results144 _ _ (w.heap.size + 1) 51 (wn V) (wn_size _) rfl (setRow_heap _ _ _ _ _ _ rr.out)) rfl ⟨rfl, below_setRow J3.out.bel (by omega) _⟩
/-- The work of a target. -/
theorem work_yes (b : Nat) (hb : b < 4294967296) (h : okB b = true) (w : World) : Calls Tryz.prog 54 #[.int .u32 (b : Int)] w fun e w' => e = .returned (.tuple #[.agg (wn ((M - 1 - tgt b) / (tgt b + 1) + 1)), .int .i64 0]) ∧ Below w.heap.size w w' := by
  have HE := hide fun W => expand_yes b hb h W
  have hT : tgt b ≤ Lm := by
    unfold okB at h
    simp only [Bool.and_eq_true, decide_eq_true_eq] at h
    exact h.2
  have HS := hide fun W => share_any (tgt b) hT W
  have J0 := hide (Rs.start1 w 51 0)
  generalize (M - 1 - tgt b) / (tgt b + 1) + 1 = V at *
  generalize tgt b = T at *
  clear hb h hT
  go_enter Tryz.func54, Tryz.ntmps54
  go_upto_region 1 with (refine wpList_allocA AW rfl rfl ?_)
  generalize w.alloc (.cells (wn 0) 51) = W0 at *
  go_upto_region 2 with (first | (go_at_call 81; refine (HE.out _).mono ?_; rintro e w1 ⟨rfl, be⟩; have J1 := hide ((J0.out.next be).new 51 T); clear be) | refine wpList_allocA AW rfl rfl ?_ | refine wpList_store_newA AW rfl _ _ rfl _ rfl (wn T) (wn_size _) (wn_one _) rfl rfl ?_)
  generalize w1.alloc (.cells (wn T) 51) = W1 at *
  generalize w1.heap.size = g4 at *
  have rT := hide (J1.out.at (g := g4) (t := 51) (n := T) (by simp))
  go_wp2_with (first | refine wpList_loadA AW rfl _ rfl g4 rfl (wn T) (wn_size _) 51 rT.out ?_ | (go_at_call 144; refine (HS.out _).mono ?_; rintro e w2 ⟨rfl, be⟩; have J2 := hide (J1.out.next be); have rr := hide (J2.out.at (g := w.heap.size) (t := 51) (n := 0) (by simp)); clear be) | refine wpList_storeA AW rfl _ _ rfl _ (wn V) (wn_size _) (wn_one _) rfl rfl (wn 0) (wn_size 0) 51 rr.out ?_)
  exact bodyPost_ret (v := .tuple #[.agg (wn V), .int .i64 0]) (resA2 AW Tryz.results54 _ _ w.heap.size 51 (wn V) (wn_size _) rfl (setRow_heap _ _ _ _ _ _ rr.out) _ (by rfl)) rfl ⟨rfl, below_setRow J2.out.bel (Nat.le_refl _) _⟩
theorem work_no (b : Nat) (hb : b < 4294967296) (h : okB b = false) (w : World) : Calls Tryz.prog 54 #[.int .u32 (b : Int)] w fun e w' => e = .returned (.tuple #[.agg (wn 0), .int .i64 50]) ∧ Below w.heap.size w w' := by
  have HE := hide fun W => expand_no b hb h W
  have J0 := hide (Rs.start1 w 51 0)
  clear hb h
  go_enter Tryz.func54, Tryz.ntmps54
  go_upto_region 1 with (refine wpList_allocA AW rfl rfl ?_)
  generalize w.alloc (.cells (wn 0) 51) = W0 at *
  go_upto_region 2 with (first | (go_at_call 81; refine (HE.out _).mono ?_; rintro e w1 ⟨rfl, be⟩; have J1 := hide ((J0.out.next be).new 51 0); clear be) | refine wpList_allocA AW rfl rfl ?_ | refine wpList_store_newA AW rfl _ _ rfl _ rfl (wn 0) (wn_size _) (wn_one _) rfl rfl ?_)
  generalize w1.alloc (.cells (wn 0) 51) = W1 at *
  generalize w1.heap.size = g4 at *
  have rr := hide (J1.out.at (g := w.heap.size) (t := 51) (n := 0) (by simp))
  go_wp2_with (first | refine wpList_buildA AW rfl rfl ?_ | refine wpList_storeA AW rfl _ _ rfl _ (wn 0) (wn_size _) (wn_one _) rfl rfl (wn 0) (wn_size 0) 51 rr.out ?_)
  exact bodyPost_ret (v := .tuple #[.agg (wn 0), .int .i64 50]) (resA2 AW Tryz.results54 _ _ w.heap.size 51 (wn 0) (wn_size _) rfl (setRow_heap _ _ _ _ _ _ rr.out) _ (by rfl)) rfl ⟨rfl, below_setRow J1.out.bel (Nat.le_refl _) _⟩
end
end Go.Proofs.YtofddbjnncgmlaaGreatDoor
