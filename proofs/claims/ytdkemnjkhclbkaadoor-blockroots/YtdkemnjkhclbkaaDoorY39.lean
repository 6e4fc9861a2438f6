/- The contract of the document's Meets; the law TargetMeets: its walk. The law's head; the document's Head, ID and Meets: their contracts. Towards the law's ref: the document's blocks. The contract of the statements' awake. The contracts of Branch and of the document's Branch. A list appended to another one; the contracts of the document's Root and of the library's Clone. -/
import Derived.Test.YtdkemnjkhclbkaaDoorY22
import Derived.Test.YtdkemnjkhclbkaaDoorY37
import Derived.Test.YtdkemnjkhclbkaaDoorY38
import Derived.Test.YtdkemnjkhclbkaaDoorY32
namespace Go.Proofs.YtdkemnjkhclbkaaDoor
open Go.RowKit
open Go.Deep
section
set_option maxRecDepth 10000
set_option maxHeartbeats 2000000
end
end Go.Proofs.YtdkemnjkhclbkaaDoor
namespace Go.Proofs.YtdkemnjkhclbkaaDoor
open Go.RowKit
open Go.Deep
set_option linter.unusedVariables false
theorem AHr : Arr 33 68 zHd.cells.toArray := ⟨.inr ⟨_, Tryd.underlying33⟩, by kernel_rfl, fun w => by kernel_rfl, fun w => by kernel_rfl, by rw [List.size_toArray, Hd.len]⟩
theorem bld_rHd (h : Hd) (W : World) : (Instr.build 33 #[(0, .int .u32 (h.ver.toNat : Int)), (1, .agg (hc h.prev)), (2, .agg (hc h.root)), (3, .int .u32 (h.time.toNat : Int)), (4, .int .u32 (h.bits.toNat : Int)), (5, .int .u32 (h.nonce.toNat : Int))]).run Tryd.prog W = .ok (.agg h.cells.toArray) W := by
  obtain ⟨v, p, r, t, b, o, hp, hr⟩ := h
  obtain ⟨_, _, _, _, _, _, _, _, _, _, _, _, _, _, _, _, _, _, _, _, _, _, _, _, _, _, _, _, _, _, _, _, rfl⟩ := id32' p hp
  obtain ⟨_, _, _, _, _, _, _, _, _, _, _, _, _, _, _, _, _, _, _, _, _, _, _, _, _, _, _, _, _, _, _, _, rfl⟩ := id32' r hr
  kernel_rfl
section
set_option maxRecDepth 10000
set_option maxHeartbeats 4000000
theorem lhead_any (h : Hd) (w : World) : Calls Tryd.prog 22 #[.agg h.cells.toArray] w fun e w' => e = .returned (.agg h.cells.toArray) ∧ Below w.heap.size w w' := by
  have s1 : (w.alloc (.cells h.cells.toArray 26)).heap.size = w.heap.size + 1 := by simp
  have R1 := hide ((Below.heap_alloc _ (.cells zHd.cells.toArray 33) _ (lt_heap (heap_alloc_last w (.cells h.cells.toArray 26)))).trans (heap_alloc_last w (.cells h.cells.toArray 26)))
  have R2 := hide (heap_alloc_last (w.alloc (.cells h.cells.toArray 26)) (.cells zHd.cells.toArray 33))
  have B1 := hide (((Below.refl w.heap.size w).alloc (Nat.le_refl _) (.cells h.cells.toArray 26)).alloc (by rw [s1]; omega) (.cells zHd.cells.toArray 33))
  have rr := rowAt h.cells R1.out
  have c0 := h.ver0 rr
  have c3 := h.time0 rr
  have c4 := h.bits0 rr
  have c5 := h.nonce0 rr
  have rp := hide (h.prevR rr)
  have rq := hide (h.rootR rr)
  rw [Nat.zero_add] at c3 c4 c5 rp rq
  have HP := hide h.hp
  have HR := hide h.hr
  have BH := hide (bld_rHd h)
  have HZ := hide h.size
  have HA := hide h.all
  rw [s1] at R2
  clear rr
  generalize h.cells.toArray = C at *
  generalize (h.ver.toNat : Int) = v0 at *
  generalize (h.time.toNat : Int) = v3 at *
  generalize (h.bits.toNat : Int) = v4 at *
  generalize (h.nonce.toNat : Int) = v5 at *
  generalize h.prev = P at *
  generalize h.root = Q at *
  go_enter Tryd.func22, Tryd.ntmps22
  go_upto_region 1 with ((with_reducible refine at_list ?_); first | refine wpList_boxA rfl _ rfl C rfl ?_ | refine wpList_allocA AHr rfl rfl ?_)
  try rw [s1]
  clear s1
  generalize (w.alloc (.cells C 26)).alloc (.cells zHd.cells.toArray 33) = W0 at *
  go_wp2_with ((with_reducible refine at_list ?_); first | refine wpLoadH25 _ rfl w.heap.size 1 rfl P HP.out rp.out (by rfl) ?_ | refine wpLoadH25 _ rfl w.heap.size 33 rfl Q HR.out rq.out (by rfl) ?_ | refine wpList_bldX rfl _ rfl #[(0, .int .u32 v0), (1, .agg (hc P)), (2, .agg (hc Q)), (3, .int .u32 v3), (4, .int .u32 v4), (5, .int .u32 v5)] C (by simp only [List.map_toArray, List.map_cons, List.map_nil]; rfl) BH.out ?_ | refine wpList_storeA AHr rfl _ _ rfl (w.heap.size + 1) C HZ.out HA.out rfl rfl zHd.cells.toArray zHd.size 33 R2.out ?_)
  exact bodyPost_ret (v := .agg C) (resA AHr Tryd.results22 _ _ (w.heap.size + 1) 33 _ HZ.out rfl (setRow_heap _ _ _ _ _ _ R2.out)) rfl ⟨rfl, below_setRow B1.out (by omega) _⟩
end
end Go.Proofs.YtdkemnjkhclbkaaDoor
namespace Go.Proofs.YtdkemnjkhclbkaaDoor
open Go.RowKit
open Go.Deep
set_option linter.unusedVariables false
def KTr : Ek Tq := ⟨34, 59, 4, 64, Tq.cells, by decide, by decide, Tryd.underlying34, by kernel_rfl, fun _ => rfl, Tq.one⟩
def Tq.canR (w : World) (x : Tq) : Prop := LR w x.m x.ai x.ci x.ao x.co ∧ x.m.fit
theorem Tq.canR.below {w W : World} {x : Tq} (h : x.canR w) (b : Below w.heap.size w W) : x.canR W := ⟨h.1.below b, h.2⟩
/-- A slice of the document's transactions that can be read. -/
structure LQr (w : World) (v : Value) (L : List Tq) : Prop where
  l : LX KTr w v L
  t : ∀ x ∈ L, x.canR w
theorem LQr.below {w W : World} {v : Value} {L : List Tq} (h : LQr w v L) (b : Below w.heap.size w W) : LQr W v L := ⟨h.l.below b, fun x hx => (h.t x hx).below b⟩
theorem LQr.at {w : World} {v : Value} {L : List Tq} (h : LQr w v L) (k : Nat) (hk : k < L.length) : L[k].canR w := h.t _ (List.getElem_mem hk)
theorem ABr : Arr 36 69 (bkA zHd (.slice none 0 0)) := ⟨.inr ⟨_, Tryd.underlying36⟩, by kernel_rfl, fun w => by kernel_rfl, fun w => by kernel_rfl, bkA_size _ _⟩
theorem bld_rBk (h : Hd) (W : World) : (Instr.build 36 #[(0, .agg h.cells.toArray)]).run Tryd.prog W = .ok (.agg (bkA h (.slice none 0 0))) W := by
  obtain ⟨v, p, r, t, b, o, hp, hr⟩ := h
  obtain ⟨_, _, _, _, _, _, _, _, _, _, _, _, _, _, _, _, _, _, _, _, _, _, _, _, _, _, _, _, _, _, _, _, rfl⟩ := id32' p hp
  obtain ⟨_, _, _, _, _, _, _, _, _, _, _, _, _, _, _, _, _, _, _, _, _, _, _, _, _, _, _, _, _, _, _, _, rfl⟩ := id32' r hr
  kernel_rfl
theorem bkA_set (h : Hd) (v u : Value) : (bkA h v).setIfInBounds 68 u = bkA h u := by
  rw [bkA, bkA, List.setIfInBounds_toArray, List.set_append_right _ _ (by rw [h.len]; omega), h.len]
  rfl
/-- A transaction whose lists lie in blocks of a stretch, in which the own row v does not lie. -/
def El (W : World) (g3 : Nat) (v : Value) (x : Tq) : Prop := x.m.fit ∧ ∃ lo hi, g3 < lo ∧ hi ≤ W.heap.size ∧ (∀ g, v.ownBlock = some g → ¬ (lo ≤ g ∧ g < hi)) ∧ ∀ W' : World, (∀ g, lo ≤ g → g < hi → W'.heap[g]? = W.heap[g]?) → LR W' x.m x.ai x.ci x.ao x.co
theorem El.next {W W' : World} {g3 : Nat} {v : Value} {x : Tq} (h : El W g3 v x) (b : Below W.heap.size W W') : El W' g3 v x := by
  obtain ⟨hf, lo, hi, h1, h2, h3, h4⟩ := h
  exact ⟨hf, lo, hi, h1, Nat.le_trans h2 b.size, h3, fun W2 ag => h4 W2 fun g ga gb => (ag g ga gb).trans (b.block g (by omega))⟩
theorem El.onto {W W' : World} {g3 : Nat} {v v' : Value} {x : Tq} (h : El W g3 v x) (on : Onto W W' v v') : El W' g3 v' x := by
  obtain ⟨hf, lo, hi, h1, h2, h3, h4⟩ := h
  refine ⟨hf, lo, hi, h1, Nat.le_trans h2 on.grown.size, fun g hg hh => ?_, fun W2 ag => h4 W2 fun g ga gb => (ag g ga gb).trans (on.grown.block g (by omega) (fun e => h3 g e.symm ⟨ga, gb⟩))⟩
  rcases on.lies with q | ⟨c, q, hc⟩
  · exact h3 g (by rw [← q]; exact hg) hh
  · rw [q] at hg
    cases hg
    omega
theorem El.set {W : World} {g3 : Nat} {v : Value} {x : Tq} (h : El W g3 v x) (i : Nat) (u : Value) : El (W.setCell ⟨g3, i, none⟩ u) g3 v x := by
  obtain ⟨hf, lo, hi, h1, h2, h3, h4⟩ := h
  have fr := Rfr.setCell g3 W i u
  exact ⟨hf, lo, hi, h1, Nat.le_trans h2 fr.size, h3, fun W2 ag => h4 W2 fun g ga gb => (ag g ga gb).trans (fr.block g (by omega) (by omega))⟩
theorem El.read {W W' : World} {g3 : Nat} {v : Value} {x : Tq} (h : El W g3 v x) (ag : ∀ g, g3 < g → W'.heap[g]? = W.heap[g]?) : x.canR W' := by
  obtain ⟨hf, lo, hi, h1, h2, h3, h4⟩ := h
  exact ⟨h4 W' fun g ga gb => ag g (by omega), hf⟩
/-- While ref makes its answer. -/
structure Rv (w : World) (g : Nat) (W : World) (C : Array Value) (h : Hd) (P : List Tq) (ai : Option Addr) (ci : Nat) : Prop where
  bel : Below w.heap.size w W
  r0 : W.heap[w.heap.size]? = some (.cells C 29 (0, 0))
  r1 : W.heap[w.heap.size + 1]? = some (.cells (bkA zHd (.slice none 0 0)) 36 (0, 0))
  hg : w.heap.size + 1 < g
  r3 : W.heap[g]? = some (.cells (bkA h (.slice ai P.length ci)) 36 (0, 0))
  x : OX KTr W (.slice ai P.length ci) P
  f : ∀ k, (Value.slice ai P.length ci).ownBlock = some k → g < k
  e : ∀ y ∈ P, El W g (.slice ai P.length ci) y
end Go.Proofs.YtdkemnjkhclbkaaDoor
namespace Go.Proofs.YtdkemnjkhclbkaaDoor
open Go.RowKit
open Go.Deep
/-- An id whose first byte alone is said. -/
def fst1 (b : UInt8) : List UInt8 := b :: List.replicate 31 0
theorem fst1_len (b : UInt8) : (fst1 b).length = 32 := by simp [fst1]
theorem run_fst1 (b : UInt8) (w : World) : (Instr.build 24 #[(0, .int .u8 (b.toNat : Int))]).run Tryd.prog w = .ok (.agg (hc (fst1 b))) w := by kernel_rfl
section
variable {w : World} {ops : Array Oper} {rest : List Oper} {o : Oper} {a : Act} {Q : Exit → Act → World → Prop}
theorem wpList_bld1 (hw : Region.wanted o (yielded ops a.tmps) = true) {t : TypeId} (x : Operand) (ho : o.op = .build t #[(0, x)]) (v : Value) (c : Array Value) (hr : ∀ W, (Instr.build t #[(0, v)]).run Tryd.prog W = .ok (.agg c) W) (hx : a.eval x = v)
    (h : wpList Tryd.prog ops Q rest (a.put o.dst (.agg c)) w) : wpList Tryd.prog ops Q (o :: rest) a w := by
  refine wpList_step fun K hK => ?_
  rw [if_pos hw]
  unfold Oper.wp execOp
  simp only [ho, List.map_toArray, List.map_cons, List.map_nil, hx, hr w, Sem.run_bind, Result.andThen_ok, Sem.run_pure]
  exact hK _ _ h
end
theorem LH.new1 (w : World) (h : List UInt8) (hl : h.length = 32) {e : TypeId} : LH (w.alloc (.cells (hc h) e)) (.slice (some ⟨w.heap.size, 0, none⟩) 1 1) [h] := by
  refine ⟨H32.one hl, _, 1, rfl, Nat.le_refl _, fun i hi => ⟨w.heap.size, 0, rfl, by simp, ?_⟩⟩
  have : i = 0 := by simpa using hi
  subst this
  intro j u hu
  have := one_newH (e := e) w h j u (by rw [flat_one]; exact hu)
  have hadd : (⟨w.heap.size, 0, none⟩ : Addr).add j = ⟨w.heap.size, 0 + 0 * 32 + j, none⟩ := by unfold Addr.add; split <;> simp_all
  rw [← hadd]
  exact this
section
set_option maxRecDepth 10000
set_option maxHeartbeats 2000000
end
end Go.Proofs.YtdkemnjkhclbkaaDoor
namespace Go.Proofs.YtdkemnjkhclbkaaDoor
open Go.RowKit
open Go.Deep
/-- The first k ids of a branch. -/
def brA (L : List (List UInt8)) (p i : Nat) : List UInt8 := ia (lv L i) (mtM (lv L i).length (p / 2 ^ i))
def brK (L : List (List UInt8)) (p k : Nat) : List (List UInt8) := (List.range k).map (brA L p)
def brL (L : List (List UInt8)) (p : Nat) : List (List UInt8) := brK L p (dp L.length)
theorem brK_len (L : List (List UInt8)) (p k : Nat) : (brK L p k).length = k := by simp [brK]
theorem brK_snoc (L : List (List UInt8)) (p k : Nat) : brK L p (k + 1) = brK L p k ++ [brA L p k] := by simp [brK, List.range_succ]
theorem way_lt (L : List (List UInt8)) (p : Nat) (h : p < L.length) : ∀ k, p / 2 ^ k < (lv L k).length
  | 0 => by simpa [lv] using h
  | k + 1 => by
    rw [lv, nxt_len, Nat.pow_succ, ← Nat.div_div_eq_div_mul]
    have := way_lt L p h k
    omega
theorem half_way (p k : Nat) : p / 2 ^ k / 2 = p / 2 ^ (k + 1) := by rw [Nat.pow_succ, Nat.div_div_eq_div_mul]
theorem mt_ref (n p : Nat) (h : p < n) : mtM n p = if p + 1 - 2 * (p % 2) = n then p else p + 1 - 2 * (p % 2) := by
  unfold mtM
  rcases Nat.mod_two_eq_zero_or_one p with e | e
  · simp only [e, if_true]
    by_cases h2 : p + 1 < n
    · rw [if_pos h2, if_neg (by omega)]
      omega
    · rw [if_neg h2, if_pos (by omega)]
  · simp only [e, Nat.one_ne_zero, if_false]
    rw [if_pos (by omega), if_neg (by omega)]
    omega
/-- Two slices lie in blocks of their own. -/
def Apart (b l : Value) : Prop := ∀ g, b.ownBlock = some g → l.ownBlock ≠ some g
theorem apart_new {e e2 : TypeId} {w w2 : World} {b l : Value} {L M : List (List UInt8)} (j : OH e w b L) (o : Oj e2 w w2 l M) : Apart b l := fun g hg h => by
  have h1 := j.lt g hg
  have h2 := o.far g h
  omega
theorem LH.onto {W W' : World} {l b b' : Value} {L : List (List UInt8)} (h : LH W l L) (o : Onto W W' b b') (ha : Apart b l) : LH W' l L := by
  obtain ⟨h1, ao, cap, rfl, h2, h3⟩ := h
  refine ⟨h1, ao, cap, rfl, h2, fun i hi => ?_⟩
  obtain ⟨g, off, rfl, hg, hr⟩ := h3 i hi
  exact ⟨g, off, rfl, Nat.lt_of_lt_of_le hg o.grown.size, range_block hr (o.grown.block g hg (fun e => ha g e.symm rfl))⟩
theorem LH.lt {W : World} {l : Value} {L : List (List UInt8)} (h : LH W l L) (h0 : 0 < L.length) : ∀ g, l.ownBlock = some g → g < W.heap.size := by
  obtain ⟨h1, ao, cap, rfl, h2, h3⟩ := h
  obtain ⟨g, off, rfl, hg, _⟩ := h3 0 h0
  intro g' e
  cases e
  exact hg
section
set_option maxRecDepth 10000
set_option maxHeartbeats 4000000
end
end Go.Proofs.YtdkemnjkhclbkaaDoor
namespace Go.Proofs.YtdkemnjkhclbkaaDoor
open Go.RowKit
open Go.Deep
/-- The cells of a list that can be read. -/
theorem LH.flat {w : World} {g off n cap : Nat} {L : List (List UInt8)} (h : LH w (.slice (some ⟨g, off, none⟩) n cap) L) : ∀ j u, (flat L)[j]? = some u → w.cell? ((⟨g, off, none⟩ : Addr).add j) = some u := by
  intro j u hu
  have hl := flat_len h.1
  have hj : j < L.length * 32 := by
    have := (List.getElem?_eq_some_iff.1 hu).1
    omega
  have hr := h.range (j / 32) (by omega)
  have e := flat_at h.1 (j / 32) (by omega) (j % 32) (Nat.mod_lt _ (by decide))
  rw [show j / 32 * 32 + j % 32 = j by omega, hu] at e
  have := hr (j % 32) u e.symm
  have hadd : (⟨g, off, none⟩ : Addr).add j = ⟨g, off + j / 32 * 32 + j % 32, none⟩ := by
    rw [show off + j / 32 * 32 + j % 32 = off + j by omega]
    unfold Addr.add
    split <;> simp_all
  rw [hadd]
  exact this
/-- An append of a whole list. -/
theorem ET.appAll {t e : TypeId} (E : ET t e) {w : World} {ty : TypeId} {v s : Value} {L N : List (List UInt8)} (hown : OH e w v L) (hv : v ≠ .slice none 0 0) (hs : LH w s N) (hsm : L.length + N.length ≤ 4398046511104) :
    ∃ v' w', (Builtin.append_ #[t, t] ty #[v, s]).run Tryd.prog w = .ok v' w' ∧ OH e w' v' (L ++ N) ∧ Onto w w' v v' := by
  obtain ⟨ao, cap, rfl⟩ := hs.form
  rcases ao with _ | ⟨g, off, spot⟩
  · have hN : N = [] := by
      rcases N with _ | ⟨x, r⟩
      · rfl
      · obtain ⟨_, ao', cap', e1, _, hat⟩ := hs
        injection e1 with e1
        subst e1
        obtain ⟨g, off, e2, _⟩ := hat 0 (by simp)
        cases e2
    subst hN
    obtain ⟨i0, z, hi, hz0, hzs, hz1, hz2⟩ := E.parts
    rcases hown.2.2 with ⟨rfl, h0⟩ | ⟨gv, capv, cur, rfl, hb, hg, hn, hm, hsz, ht⟩
    · exact absurd rfl hv
    · have hr := run_append_room_src (P := Tryd.prog) w t t ty e i0 E.sl hi gv 0 L.length capv (.slice none 0 cap) 0 [] (Src.ofNil w E.sl cap) (by omega) (fun j hj => by simp at hj) (fun j hj => by simp at hj)
      refine ⟨_, _, hr, ?_, ?_⟩
      · rw [List.append_nil]
        exact hown
      · exact Onto.refl _ _
  · have hspot : spot = none ∨ N = [] := by
      rcases N with _ | ⟨x, r⟩
      · exact .inr rfl
      · obtain ⟨_, ao', cap', e1, _, hat⟩ := hs
        injection e1 with e1
        subst e1
        obtain ⟨g', off', e2, _⟩ := hat 0 (by simp)
        injection e2 with e2
        injection e2 with _ _ e3
        exact .inl e3
    rcases hspot with rfl | rfl
    · exact E.app hown ⟨g, off, none⟩ N.length cap N hs.1 rfl hs.flat hsm
    · exact E.app hown ⟨g, off, spot⟩ 0 cap [] H32.nil rfl (fun j u hu => by simp [flat] at hu) hsm
section
variable {w : World} {ops : Array Oper} {rest : List Oper} {o : Oper} {a : Act} {Q : Exit → Act → World → Prop}
theorem ET.wpAppAll {t e : TypeId} (E : ET t e) (hgd : o.guard = none) (x y : Operand)
    (ho : o.op = .call { callee := .builtin .append, args := #[x, y], argTypes := #[t, t] })
    (v : Value) (L : List (List UInt8)) (hx : a.eval x = v) (hown : OH e w v L) (hv : v ≠ .slice none 0 0)
    (s : Value) (N : List (List UInt8)) (hy : a.eval y = s) (hs : LH w s N) (hsm : L.length + N.length ≤ 4398046511104)
    (h : ∀ v' w', OH e w' v' (L ++ N) → Onto w w' v v' → wpList Tryd.prog ops Q rest (a.put o.dst v') w') :
    wpList Tryd.prog ops Q (o :: rest) a w := by
  refine wpList_plain hgd fun K hK => ?_
  obtain ⟨v', w', hr, h2, h3⟩ := E.appAll (ty := o.type) hown hv hs hsm
  unfold Oper.wp execOp
  simp only [ho, resolve, invoke, builtin, Sem.run_bind, Sem.run_pure, Result.andThen_ok, List.map_toArray, List.map_cons, List.map_nil, hx, hy, hr]
  exact hK _ _ (h v' w' h2 h3)
end
/-- A level of the document's, and an answer's place. -/
structure Rg (w W : World) (v : Value) (L : List (List UInt8)) : Prop where
  lh : LH W v L
  r : W.heap[w.heap.size]? = some (.cells (hc zeros) 23 (0, 0))
  bel : Below w.heap.size w W
theorem Rg.level {w W W' : World} {v v' : Value} {L L' : List (List UInt8)} (j : Rg w W v L) (o : Oj 23 W W' v' L') : Rg w W' v' L' := ⟨o.own.read, (o.bel.block _ (lt_heap j.r)).trans j.r, below_next j.bel o.bel⟩
section
set_option maxRecDepth 10000
set_option maxHeartbeats 2000000
theorem rroot_none (v : Value) (w : World) (hL : LH w v []) : Calls Tryd.prog 24 #[v] w fun e w' => e = .returned (.tuple #[.agg (hc zeros), .bool false]) ∧ Below w.heap.size w w' := by
  obtain ⟨ao, cap, rfl⟩ := hL.form
  have R0 := hide (heap_alloc_last w (.cells (hc zeros) 23))
  have B0 := hide ((Below.refl w.heap.size w).alloc (Nat.le_refl _) (.cells (hc zeros) 23))
  rw [List.length_nil]
  clear hL
  go_enter Tryd.func24, Tryd.ntmps24
  go_upto_region 1 with (refine wpList_allocA A24 rfl rfl ?_)
  generalize w.alloc (.cells (hc zeros) 23) = W0 at *
  go_wp2_with (first | refine wpList_buildA A24 rfl rfl ?_ | refine wpList_storeA A24 rfl _ _ rfl _ (hc zeros) (by rw [hc_size, zeros_len]) (hc_one _) rfl rfl (hc zeros) (by rw [hc_size, zeros_len]) 23 R0.out ?_)
  exact bodyPost_ret (v := .tuple #[.agg (hc zeros), .bool false]) (resAB A24 Tryd.results24 _ _ w.heap.size 23 (hc zeros) (by rw [hc_size, zeros_len]) rfl (setRow_heap _ _ _ _ _ _ R0.out) _ (by rfl)) rfl ⟨rfl, below_setRow B0.out (Nat.le_refl _) _⟩
theorem rroot_some (v : Value) (L : List (List UInt8)) (w : World) (hL : LH w v L) (h0 : 0 < L.length) (hn : L.length < 4398046511104) : Calls Tryd.prog 24 #[v] w fun e w' => e = .returned (.tuple #[.agg (hc (rtL L)), .bool (muL L)]) ∧ Below w.heap.size w w' := by
  obtain ⟨ao, cap, rfl⟩ := hL.form
  have J0 : Hid (Rg w (w.alloc (.cells (hc zeros) 23)) (.slice ao L.length cap) (lv L 0)) := ⟨hL.below ((Below.refl _ _).alloc (Nat.le_refl _) _), heap_alloc_last w _, (Below.refl _ _).alloc (Nat.le_refl _) _⟩
  have HN := hide (And.intro h0 hn)
  have H3 := hide hL.1
  have RL := hide (rtL_len hL.1)
  have hne : ((L.length : Int) == 0) = false := by rw [beq_eq_false_iff_ne]; omega
  clear hL h0 hn
  go_enter Tryd.func24, Tryd.ntmps24
  go_upto_region 1 with (refine wpList_allocA A24 rfl rfl ?_)
  generalize w.alloc (.cells (hc zeros) 23) = W0 at *
  go_wp2
  go_loopw [0, 4, 5, 6] (fun v m _ _ wr => ∃ k : Nat, m = .bool (muK L k) ∧ Hid (Rg w wr v (lv L k)) ∧ Hid (dp (lv L k).length + k = dp L.length)) (fun v _ _ _ _ => lenV2 v)
  case atStart => exact ⟨0, rfl, J0, rfl⟩
  case round =>
    clear J0
    obtain ⟨k, rfl, J, HD⟩ := hrel
    obtain ⟨ao4, cap4, rfl⟩ := J.out.lh.form
    have hle := lv_le L k
    have hpos := lv_pos L HN.out.1 k
    have hn := HN.out.2
    by_cases hlt : 1 < (lv L k).length
    · have h1 : (1 : Int) < ((lv L k).length : Int) := by omega
      have HD2 : Hid (dp (lv L (k + 1)).length + (k + 1) = dp L.length) := by
        show _ = _
        rw [← HD.out, dp_step _ hlt, lv, nxt_len]
        omega
      have HS := hide (show muK L (k + 1) = (muK L k || twb (lv L k)) from rfl)
      have HNx := hide fun W hW => rnext_any (.slice ao4 (lv L k).length cap4) (lv L k) W hW (by omega)
      rw [show nxt (lv L k) = lv L (k + 1) from rfl] at HNx
      have ME := hide (show (lv L (k + 1)).length < (lv L k).length by rw [lv, nxt_len]; omega)
      generalize muK L k = mu at *
      generalize twb (lv L k) = tb at *
      clear hlt hle hpos hn hne
      cases mu
      case' false => rw [Bool.false_or] at HS
      case' true => rw [Bool.true_or] at HS
      all_goals
        go_wp2_with (first | (go_at_call 44; refine (HNx.out _ J.out.lh).mono ?_; rintro e w2 ⟨v2, rfl, o2⟩; have J2 := hide (J.out.level o2); clear o2))
        obtain ⟨ao2, cap2, rfl⟩ := J2.out.lh.form
        exact ⟨⟨k + 1, by rw [HS.out], J2, HD2⟩, by simpa [lenV2] using ME.out⟩
    · have h1 : ¬ (1 : Int) < ((lv L k).length : Int) := by omega
      have hl1 : (lv L k).length = 1 := by omega
      have hk : k = dp L.length := by
        have := HD.out
        rw [hl1, dp_low 1 (by omega)] at this
        omega
      have hrt : rtL L = ia (lv L k) 0 := by
        unfold rtL
        rw [if_neg (fun h => by rw [h] at hpos; have := HN.out.1; rw [h] at this; simp at this), hk]
      have hmu : muL L = muK L k := by unfold muL; rw [hk]
      obtain ⟨g, off, rfl⟩ := J.out.lh.base hpos
      have R1 := hide (J.out.lh.range 0 hpos)
      rw [← hrt] at R1
      have h2 : (0 : Int) < ((lv L k).length : Int) := by omega
      rw [← hmu]
      generalize hrr : rtL L = rr at *
      generalize hmm : muL L = mm at *
      have HE := hide (And.intro hrr hmm)
      clear hk hrt hmu hlt hle hn hl1 hne hrr hmm
      go_wp2_with (first | refine ET.wpLoad ER rfl _ rfl g _ rfl rr RL.out R1.out ?_ | refine wpList_storeA A24 rfl _ _ rfl _ (hc rr) (by rw [hc_size, RL.out]) (hc_one _) rfl rfl (hc zeros) (by rw [hc_size, zeros_len]) 23 J.out.r ?_)
      exact bodyPost_ret (v := .tuple #[.agg (hc rr), .bool mm]) (resAB A24 Tryd.results24 _ _ w.heap.size 23 (hc rr) (by rw [hc_size, RL.out]) rfl (setRow_heap _ _ _ _ _ _ J.out.r) _ (by rfl)) rfl ⟨by rw [HE.out.1, HE.out.2], below_setRow J.out.bel (Nat.le_refl _) _⟩
end
end Go.Proofs.YtdkemnjkhclbkaaDoor
