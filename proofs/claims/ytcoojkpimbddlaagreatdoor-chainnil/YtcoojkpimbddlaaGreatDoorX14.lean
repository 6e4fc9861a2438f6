/- The contracts of target.Limit and target.Expand. The contracts of the document's Of, raw and Limit. The contracts of the document's raw, Limit and Expand. Rows of any cells in a world, and classes of worlds that have them. The contracts of the document's Limit and Expand, Meets. The contract of the document's Sub. -/
import Derived.Test.YtcoojkpimbddlaaGreatDoorX13
import Derived.Test.YtcoojkpimbddlaaGreatDoorX12
import Derived.Test.YtcoojkpimbddlaaGreatDoorX11
namespace Go.Proofs.YtcoojkpimbddlaaGreatDoor
open Go.RowKit
open Go.Deep
def Lm : Nat := 8388607 * 2 ^ 232
theorem Lm_eq : tgt 545259519 = Lm := by decide +kernel
theorem Lm_M : Lm < M := by decide +kernel
theorem Lm_ov : decide (M ≤ Lm) = false := by decide +kernel
def okB (b : Nat) : Bool := decide (b / 8388608 % 2 = 0) && decide (0 < tgt b) && decide (tgt b ≤ Lm)
section
set_option maxRecDepth 10000
set_option maxHeartbeats 2000000
theorem limit_any (w : World) : Calls Tryz.prog 180 #[] w fun e w' => e = .returned (.agg (wn Lm)) ∧ Below w.heap.size w w' := by
  have HS : Hid (∀ W, Calls Tryz.prog 177 #[.int .u32 545259519] W fun e w' => e = .returned (.tuple #[.agg (wn Lm), .bool false]) ∧ Below W.heap.size W w') := fun W => by
    have := said_any 545259519 (by decide) W
    rw [Lm_eq, Lm_ov] at this
    exact this
  have J0 := hide (heap_alloc_last w (.cells (wn 0) 51))
  have B0 := hide ((Below.refl w.heap.size w).alloc (Nat.le_refl _) (.cells (wn 0) 51))
  generalize Lm = L at *
  go_enter Tryz.func180, Tryz.ntmps180
  go_upto_region 1 with (refine wpList_allocA AW rfl rfl ?_)
  generalize w.alloc (.cells (wn 0) 51) = W0 at *
  go_wp2_with (first | (go_at_call 177; refine (HS.out _).mono ?_; rintro e w1 ⟨rfl, b1⟩; have J1 := hide (((below_allocZ w1 (.cells (wn L) 51)).block _ (Nat.lt_of_lt_of_le (lt_heap J0.out) b1.size)).trans ((b1.block _ (lt_heap J0.out)).trans J0.out)); have B1 := hide (below_next (below_next B0.out b1) (below_allocZ w1 (.cells (wn L) 51))); have G1 := hide (heap_alloc_last w1 (.cells (wn L) 51)); clear b1) | refine wpList_allocA AW rfl rfl ?_ | refine wpList_store_newA AW rfl _ _ rfl _ rfl (wn L) (wn_size _) (wn_one _) rfl rfl ?_ | refine wpList_loadA AW rfl _ rfl _ rfl (wn L) (wn_size _) 51 G1.out ?_ | refine wpList_storeA AW rfl _ _ rfl _ (wn L) (wn_size _) (wn_one _) rfl rfl (wn 0) (wn_size 0) 51 J1.out ?_)
  exact bodyPost_ret (v := .agg (wn L)) (resA AW Tryz.results180 _ _ w.heap.size 51 (wn L) (wn_size _) rfl (setRow_heap _ _ _ _ _ _ J1.out)) rfl ⟨rfl, below_setRow B1.out (Nat.le_refl _) _⟩
theorem expand_core (b : Nat) (hb : b < 4294967296) (ov sg zb gt : Bool) (hov : decide (M ≤ tgt b) = ov) (hsg : decide (b / 8388608 % 2 = 1) = sg) (hzb : decide (tgt b % M = 0) = zb) (hgt : decide (0 < cmpZ (tgt b % M) Lm) = gt) (w : World) :
    Calls Tryz.prog 109 #[.int .u32 (b : Int)] w fun e w' => e = .returned (if ov || sg || zb || gt then .tuple #[.agg (wn 0), .int .i64 50] else .tuple #[.agg (wn (tgt b % M)), .int .i64 0]) ∧ Below w.heap.size w w' := by
  have HS := hide fun W => said_any b hb W
  rw [hov, ← wn_mod] at HS
  have hand := and_bit b hb
  rw [hsg] at hand
  have hT := Nat.mod_lt (tgt b) M_pos
  have HZ := hide fun W => zero_any _ hT W
  rw [hzb] at HZ
  have HL := hide fun W => limit_any W
  have HC := hide fun W => compare_any _ _ hT Lm_M W
  have J0 := hide (Rs.start1 w 51 0)
  generalize tgt b % M = T at *
  generalize Lm = L at *
  generalize cmpZ T L = z at *
  clear hov hsg hzb hT hb
  go_enter Tryz.func109, Tryz.ntmps109
  go_upto_region 1 with (refine wpList_allocA AW rfl rfl ?_)
  generalize w.alloc (.cells (wn 0) 51) = W0 at *
  go_upto_region 2 with (first | (go_at_call 177; refine (HS.out _).mono ?_; rintro e w1 ⟨rfl, be⟩; have J1 := hide ((J0.out.next be).new 51 T); clear be) | refine wpList_allocA AW rfl rfl ?_ | refine wpList_store_newA AW rfl _ _ rfl _ rfl (wn T) (wn_size _) (wn_one _) rfl rfl ?_)
  have LT := hide (lt_heap (J0.out.at (g := w.heap.size) (t := 51) (n := 0) (by simp)))
  generalize w1.alloc (.cells (wn T) 51) = W1 at *
  generalize w1.heap.size = g4 at *
  clear J0 HS
  have hc : ov = true ∨ (ov = false ∧ sg = true) ∨ (ov = false ∧ sg = false ∧ zb = true) ∨ (ov = false ∧ sg = false ∧ zb = false ∧ gt = true) ∨ (ov = false ∧ sg = false ∧ zb = false ∧ gt = false) := by
    cases ov <;> cases sg <;> cases zb <;> cases gt <;> simp
  have r2 := hide (J1.out.at (g := w.heap.size) (t := 51) (n := 0) (by simp))
  obtain ⟨I, hne, F, i0, h0, hJ, hcl⟩ := J1.out.cls
  rcases hc with rfl | ⟨rfl, rfl⟩ | ⟨rfl, rfl, rfl⟩ | ⟨rfl, rfl, rfl, rfl⟩ | ⟨rfl, rfl, rfl, rfl⟩
  all_goals
    refine wp_region_class_lit (by kernel_rfl) (by kernel_rfl) i0 h0 ?_
    repeat (first | ((go_big_quiet_want; refine quiet_loadA AW _ (by rfl) g4 (by rfl) (wn T) (wn_size _) 51 (Rs.of hJ (by simp)) ?_); go_big_quiet_on; simp only [Act.put, List.setIfInBounds_toArray, List.set_cons_succ, List.set_cons_zero]) | go_big_quiet_step (first | (go_at_call 178; exact class_of hcl.out (HZ.out _)) | (go_at_call 180; exact class_of hcl.out (HL.out _)) | (go_at_call 179; exact class_of hcl.out (HC.out _))))
    refine wpQuiet_nil ?_
    rintro _ ⟨iq, rfl⟩
    have J2 := hide (hJ.out iq)
    clear hJ hcl h0 HZ HL HC r2
    generalize F iq = W2 at *
    have r2 := hide (J2.out.at (g := w.heap.size) (t := 51) (n := 0) (by simp))
    have r4 := hide (J2.out.at (g := g4) (t := 51) (n := T) (by simp))
  iterate 4
    · go_wp2_with (first | refine wpList_buildA AW rfl rfl ?_ | refine wpList_storeA AW rfl _ _ rfl _ (wn 0) (wn_size _) (wn_one _) rfl rfl (wn 0) (wn_size 0) 51 r2.out ?_)
      exact bodyPost_ret (v := .tuple #[.agg (wn 0), .int .i64 50]) (resA2 AW Tryz.results109 _ _ w.heap.size 51 (wn 0) (wn_size _) rfl (setRow_heap _ _ _ _ _ _ r2.out) _ (by rfl)) rfl ⟨rfl, below_setRow J2.out.bel (Nat.le_refl _) _⟩
  · go_wp2_with (first | refine wpList_loadA AW rfl _ rfl g4 rfl (wn T) (wn_size _) 51 r4.out ?_ | refine wpList_storeA AW rfl _ _ rfl _ (wn T) (wn_size _) (wn_one _) rfl rfl (wn 0) (wn_size 0) 51 r2.out ?_)
    exact bodyPost_ret (v := .tuple #[.agg (wn T), .int .i64 0]) (resA2 AW Tryz.results109 _ _ w.heap.size 51 (wn T) (wn_size _) rfl (setRow_heap _ _ _ _ _ _ r2.out) _ (by rfl)) rfl ⟨rfl, below_setRow J2.out.bel (Nat.le_refl _) _⟩
end
theorem cmp_gt (m n : Nat) : (0 < cmpZ m n) = (n < m) := by
  apply propext
  unfold cmpZ
  split
  · simp; omega
  · split <;> simp <;> omega
theorem expand_yes (b : Nat) (hb : b < 4294967296) (h : okB b = true) (w : World) : Calls Tryz.prog 109 #[.int .u32 (b : Int)] w fun e w' => e = .returned (.tuple #[.agg (wn (tgt b)), .int .i64 0]) ∧ Below w.heap.size w w' := by
  unfold okB at h
  simp only [Bool.and_eq_true, decide_eq_true_eq] at h
  have hL := Lm_M
  have := expand_core b hb false false false false (by simp; omega) (by simp; omega) (by rw [Nat.mod_eq_of_lt (by omega)]; simp; omega) (by rw [Nat.mod_eq_of_lt (by omega)]; simp only [cmp_gt]; simp; omega) w
  rw [Nat.mod_eq_of_lt (by omega)] at this
  exact this
theorem expand_no (b : Nat) (hb : b < 4294967296) (h : okB b = false) (w : World) : Calls Tryz.prog 109 #[.int .u32 (b : Int)] w fun e w' => e = .returned (.tuple #[.agg (wn 0), .int .i64 50]) ∧ Below w.heap.size w w' := by
  have := expand_core b hb _ _ _ _ rfl rfl rfl rfl w
  rw [if_pos] at this
  · exact this
  · simp only [cmp_gt, Bool.or_eq_true, decide_eq_true_eq]
    unfold okB at h
    by_cases h1 : M ≤ tgt b
    · exact .inl (.inl (.inl h1))
    · rw [Nat.mod_eq_of_lt (show tgt b < M by omega)]
      by_cases h2 : b / 8388608 % 2 = 1
      · exact .inl (.inl (.inr h2))
      · by_cases h3 : tgt b = 0
        · exact .inl (.inr h3)
        · right
          rcases Nat.lt_or_ge Lm (tgt b) with h4 | h4
          · exact h4
          · rw [show decide (b / 8388608 % 2 = 0) = true by simp; omega, show decide (0 < tgt b) = true by simp; omega, show decide (tgt b ≤ Lm) = true by simp; omega] at h
            cases h
def hv (l : List UInt8) : Nat := vs 256 (by8 l) 32
theorem hv_lt (l : List UInt8) : hv l < M := by
  have := vs_lt (B := 256) (f := by8 l) (k := 32) (fun i _ => by8_lt l i)
  have e : M = 256 ^ 32 := by decide +kernel
  rw [e]
  exact this
structure On (w W : World) (t u : TypeId) (l : List UInt8) (f : Nat → Nat) : Prop where
  a : W.heap[w.heap.size]? = some (.cells (hc l) t (0, 0))
  r : W.heap[w.heap.size + 1]? = some (.cells (bn 0) u (0, 0))
  o : Ni W (w.heap.size + 1 + 1) u 40 f
  bel : Below w.heap.size w W
theorem On.start (w : World) (t u : TypeId) (l : List UInt8) : On w (((w.alloc (.cells (hc l) t)).alloc (.cells (bn 0) u)).alloc (.cells (bn 0) u)) t u l (dg 256 0) := by
  obtain ⟨e1, e2, e3⟩ := blk3 w (.cells (hc l) t) (.cells (bn 0) u) (.cells (bn 0) u)
  exact ⟨e1, e2, Ni.of_heap e3, below3 w _ _ _⟩
theorem On.set {w W : World} {t u : TypeId} {l : List UInt8} {f : Nat → Nat} (j : On w W t u l f) (i x : Nat) : On w (W.setCell ⟨w.heap.size + 1 + 1, i, none⟩ (.int .i64 ((x : Nat) : Int))) t u l (fun k => if k = i then x else f k) :=
  ⟨(Below.heap_setCell _ _ _ _ (by simp <;> omega)).trans j.a, (Below.heap_setCell _ _ _ _ (by simp <;> omega)).trans j.r, j.o.set i x, j.bel.setCell (by simp <;> omega) _⟩
theorem On.congr {w W : World} {t u : TypeId} {l : List UInt8} {f f' : Nat → Nat} (j : On w W t u l f) (e : ∀ i, i < 40 → f i = f' i) : On w W t u l f' := ⟨j.a, j.r, j.o.congr e, j.bel⟩
section
set_option maxRecDepth 10000
set_option maxHeartbeats 2000000
end
structure Rw (w W : World) (f : Nat → Nat) : Prop where
  r : W.heap[w.heap.size]? = some (.cells (bn 0) 229 (0, 0))
  o : Ni W (w.heap.size + 1) 229 40 f
  bel : Below w.heap.size w W
theorem Rw.start (w : World) : Rw w ((w.alloc (.cells (bn 0) 229)).alloc (.cells (bn 0) 229)) (dg 256 0) :=
  ⟨(blk2x w _ _).1, Ni.of_heap (blk2x w _ _).2, below2x w _ _⟩
theorem Rw.set {w W : World} {f : Nat → Nat} (j : Rw w W f) (i x : Nat) : Rw w (W.setCell ⟨w.heap.size + 1, i, none⟩ (.int .i64 ((x : Nat) : Int))) (fun k => if k = i then x else f k) :=
  ⟨(Below.heap_setCell _ _ _ _ (by simp <;> omega)).trans j.r, j.o.set i x, j.bel.setCell (by simp <;> omega) _⟩
theorem Rw.congr {w W : World} {f f' : Nat → Nat} (j : Rw w W f) (e : ∀ i, i < 40 → f i = f' i) : Rw w W f' := ⟨j.r, j.o.congr e, j.bel⟩
section
set_option maxRecDepth 10000
set_option maxHeartbeats 2000000
end
structure Rc (w W : World) (l : List (Nat × TypeId × Array Value)) : Prop where
  row : ∀ p ∈ l, W.heap[p.1]? = some (.cells p.2.2 p.2.1 (0, 0))
  bel : Below w.heap.size w W
section
variable {w W W' : World} {l : List (Nat × TypeId × Array Value)} {g : Nat} {t : TypeId} {c : Array Value}
theorem Rc.at (j : Rc w W l) (h : (g, t, c) ∈ l) : W.heap[g]? = some (.cells c t (0, 0)) := j.row _ h
theorem Rc.next (j : Rc w W l) (h : Below W.heap.size W W') : Rc w W' l := ⟨fun p hp => (h.block _ (lt_heap (j.row p hp))).trans (j.row p hp), below_next j.bel h⟩
theorem Rc.drew (j : Rc w W l) : Rc w W.drew l := ⟨j.row, j.bel.drew⟩
theorem Rc.cons (j : Rc w W l) (h : W.heap[g]? = some (.cells c t (0, 0))) : Rc w W ((g, t, c) :: l) := by
  refine ⟨fun p hp => ?_, j.bel⟩
  rcases List.mem_cons.1 hp with rfl | h2
  · exact h
  · exact j.row p h2
theorem Rc.new (j : Rc w W l) (t : TypeId) (c : Array Value) : Rc w (W.alloc (.cells c t)) ((W.heap.size, t, c) :: l) := (j.next (below_allocZ W _)).cons (heap_alloc_last _ _)
theorem Rc.nil (w : World) : Rc w w [] := ⟨fun p hp => absurd hp (by simp), Below.refl _ _⟩
theorem Rc.start1 (w : World) (t : TypeId) (c : Array Value) : Rc w (w.alloc (.cells c t)) [(w.heap.size, t, c)] := (Rc.nil w).new t c
theorem Rc.start2 (w : World) (t t' : TypeId) (c d : Array Value) : Rc w ((w.alloc (.cells c t)).alloc (.cells d t')) [(w.heap.size + 1, t', d), (w.heap.size, t, c)] := by
  have := (Rc.start1 w t c).new t' d
  rw [show (w.alloc (.cells c t)).heap.size = w.heap.size + 1 by simp] at this
  exact this
theorem Rc.cls (j : Rc w W l) : ∃ (I : Type) (_ : Nonempty I) (F : I → World) (i0 : I), W.drew = F i0 ∧ Hid (∀ i, Rc w (F i) l) ∧ Hid (∀ i W', Below (F i).heap.size (F i) W' → ∃ j, W' = F j) :=
  ⟨{W : World // Rc w W l}, ⟨⟨_, j⟩⟩, Subtype.val, ⟨W.drew, j.drew⟩, rfl, fun i => i.2, fun i W' b => ⟨⟨W', i.2.next b⟩, rfl⟩⟩
theorem Rc.of {I : Type} {F : I → World} (hJ : Hid (∀ i, Rc w (F i) l)) (h : (g, t, c) ∈ l) (W : World) (hC : ∃ i, W = F i) : W.heap[g]? = some (.cells c t (0, 0)) := by
  obtain ⟨i, rfl⟩ := hC
  exact (hJ.out i).at h
theorem Rc.put {l' : List (Nat × TypeId × Array Value)} (j : Rc w W l) (g : Nat) (t : TypeId) (c : Array Value) (h : ∃ y, (g, t, y) ∈ l) (hg : w.heap.size ≤ g) (hl : ∀ p ∈ l', p = (g, t, c) ∨ (p ∈ l ∧ p.1 ≠ g)) : Rc w (W.setRow g c) l' := by
  obtain ⟨y, hy⟩ := h
  refine ⟨fun p hp => ?_, below_setRow j.bel hg _⟩
  rcases hl p hp with rfl | ⟨h1, h2⟩
  · exact setRow_heap _ _ _ _ _ _ (j.at hy)
  · exact (setRow_other _ _ _ _ h2).trans (j.row p h1)
end
section
set_option maxRecDepth 10000
set_option maxHeartbeats 2000000
end
def xt (b : Nat) : Nat := if okB b then tgt b else 0
theorem okB_iff (b : Nat) : okB b = true ↔ b / 8388608 % 2 = 0 ∧ 0 < tgt b ∧ tgt b ≤ Lm := by
  unfold okB
  simp only [Bool.and_eq_true, decide_eq_true_eq]
  omega
theorem xt_le (b : Nat) : xt b ≤ Lm := by
  unfold xt
  split
  · rename_i h
    exact ((okB_iff b).1 h).2.2
  · exact Nat.zero_le _
theorem expand_any (b : Nat) (hb : b < 4294967296) (w : World) : Calls Tryz.prog 109 #[.int .u32 (b : Int)] w fun e w' => e = .returned (.tuple #[.agg (wn (xt b)), .int .i64 (if okB b then 0 else 50)]) ∧ Below w.heap.size w w' := by
  unfold xt
  cases h : okB b
  · exact expand_no b hb h w
  · exact expand_yes b hb h w
structure Sb (w W : World) (t : TypeId) (m n g x : Nat) : Prop where
  a : W.heap[w.heap.size]? = some (.cells (wn m) t (0, 0))
  b : W.heap[w.heap.size + 1]? = some (.cells (wn n) t (0, 0))
  r : W.heap[w.heap.size + 1 + 1]? = some (.cells (wn 0) t (0, 0))
  o : W.heap[g]? = some (.cells (wn x) t (0, 0))
  lt : w.heap.size + 1 + 1 < g
  bel : Below w.heap.size w W
section
variable {w W W' : World} {t : TypeId} {m n g x : Nat}
theorem Sb.next (j : Sb w W t m n g x) (h : Below W.heap.size W W') : Sb w W' t m n g x :=
  ⟨(h.block _ (lt_heap j.a)).trans j.a, (h.block _ (lt_heap j.b)).trans j.b, (h.block _ (lt_heap j.r)).trans j.r, (h.block _ (lt_heap j.o)).trans j.o, j.lt, below_next j.bel h⟩
theorem Sb.drew (j : Sb w W t m n g x) : Sb w W.drew t m n g x := ⟨j.a, j.b, j.r, j.o, j.lt, j.bel.drew⟩
theorem Sb.put (j : Sb w W t m n g x) (y : Nat) : Sb w (W.setRow g (wn y)) t m n g y := by
  have := j.lt
  exact ⟨(setRow_other _ _ _ _ (by omega)).trans j.a, (setRow_other _ _ _ _ (by omega)).trans j.b, (setRow_other _ _ _ _ (by omega)).trans j.r, setRow_heap _ _ _ _ _ _ j.o, j.lt, below_setRow j.bel (by omega) _⟩
theorem Sb.three (w : World) (t : TypeId) (m n : Nat) : (((w.alloc (.cells (wn m) t)).alloc (.cells (wn n) t)).alloc (.cells (wn 0) t)).heap[w.heap.size]? = some (.cells (wn m) t (0, 0)) ∧ (((w.alloc (.cells (wn m) t)).alloc (.cells (wn n) t)).alloc (.cells (wn 0) t)).heap[w.heap.size + 1]? = some (.cells (wn n) t (0, 0)) ∧ (((w.alloc (.cells (wn m) t)).alloc (.cells (wn n) t)).alloc (.cells (wn 0) t)).heap[w.heap.size + 1 + 1]? = some (.cells (wn 0) t (0, 0)) ∧ Below w.heap.size w (((w.alloc (.cells (wn m) t)).alloc (.cells (wn n) t)).alloc (.cells (wn 0) t)) := by
  obtain ⟨e1, e2, e3⟩ := blk3 w (.cells (wn m) t) (.cells (wn n) t) (.cells (wn 0) t)
  exact ⟨e1, e2, e3, below3 w _ _ _⟩
structure S3 (w W : World) (t : TypeId) (m n : Nat) : Prop where
  a : W.heap[w.heap.size]? = some (.cells (wn m) t (0, 0))
  b : W.heap[w.heap.size + 1]? = some (.cells (wn n) t (0, 0))
  r : W.heap[w.heap.size + 1 + 1]? = some (.cells (wn 0) t (0, 0))
  bel : Below w.heap.size w W
theorem S3.next (j : S3 w W t m n) (h : Below W.heap.size W W') : S3 w W' t m n :=
  ⟨(h.block _ (lt_heap j.a)).trans j.a, (h.block _ (lt_heap j.b)).trans j.b, (h.block _ (lt_heap j.r)).trans j.r, below_next j.bel h⟩
theorem S3.drew (j : S3 w W t m n) : S3 w W.drew t m n := ⟨j.a, j.b, j.r, j.bel.drew⟩
theorem S3.new (j : S3 w W t m n) (x : Nat) : Sb w (W.alloc (.cells (wn x) t)) t m n W.heap.size x := by
  have k := j.next ((Below.refl _ _).alloc (Nat.le_refl _) (.cells (wn x) t))
  exact ⟨k.a, k.b, k.r, heap_alloc_last _ _, lt_heap j.r, k.bel⟩
theorem S3.alloc (j : S3 w W t m n) (o : Obj) : S3 w (W.alloc o) t m n := j.next ((Below.refl _ _).alloc (Nat.le_refl _) _)
theorem S3.at (j : S3 w W t m n) (z : W.heap[g]? = some (.cells (wn x) t (0, 0))) (lt : w.heap.size + 1 + 1 < g) : Sb w W t m n g x := ⟨j.a, j.b, j.r, z, lt, j.bel⟩
theorem S3.lt (j : S3 w W t m n) : w.heap.size + 1 + 1 < W.heap.size := lt_heap j.r
theorem S3.start (w : World) (t : TypeId) (m n : Nat) : S3 w (((w.alloc (.cells (wn m) t)).alloc (.cells (wn n) t)).alloc (.cells (wn 0) t)) t m n := by
  obtain ⟨a, b, c, d⟩ := Sb.three w t m n
  exact ⟨a, b, c, d⟩
end
theorem zW_eq : wn 0 = #[.int .u64 0, .int .u64 0, .int .u64 0, .int .u64 0] := wn_small 0 (by decide)
theorem svW_new (W : World) (n : Nat) : (svW (.pointer (some ⟨W.heap.size, 0, none⟩)) (.agg (wn n))).run Tryz.prog (W.alloc (.cells #[.int .u64 0, .int .u64 0, .int .u64 0, .int .u64 0] 51)) = .ok () ((W.alloc (.cells #[.int .u64 0, .int .u64 0, .int .u64 0, .int .u64 0] 51)).setRow W.heap.size (wn n)) := by
  rw [← zW_eq]
  exact svW_row (heap_alloc_last W _) n
attribute [local go_sem ↓] ldR_eq svR_eq
section
set_option maxRecDepth 10000
set_option maxHeartbeats 2000000
end
end Go.Proofs.YtcoojkpimbddlaaGreatDoor
