/- The contracts of Pair and of the document's Pair. Slices of one id; the contracts of mate and width; levels as lists. The contract of twins. The contract of above. -/
import Derived.Test.YtofddbjnncgmlabGreatDoorX23
import Derived.Great.BuildSlice
import Derived.Laws.BitsAllLaws
namespace Go.Proofs.YtofddbjnncgmlabGreatDoor
open Go.RowKit
open Go.Deep
/-- The digest of two ids' bytes. -/
def pr (a b : List UInt8) : List UInt8 := digest (digest (a ++ b))
theorem pr_len (a b : List UInt8) : (pr a b).length = 32 := digest_len _
theorem bs_size (a : List UInt8) : (⟨a.toArray⟩ : ByteArray).size = a.length := by
  show a.toArray.size = _
  simp
theorem bs_app (a b : List UInt8) : (⟨a.toArray⟩ : ByteArray) ++ ⟨b.toArray⟩ = ⟨(a ++ b).toArray⟩ := by
  apply ByteArray.ext
  rw [ByteArray.data_append]
  simp
theorem Kg.drew {w : World} (h : Kg w) : Kg w.drew := h
/-- Two ids, and an answer's place. -/
structure PjM (w W : World) (t : TypeId) (a b : List UInt8) : Prop where
  a : W.heap[w.heap.size]? = some (.cells (hc a) t (0, 0))
  b : W.heap[w.heap.size + 1]? = some (.cells (hc b) t (0, 0))
  r : W.heap[w.heap.size + 1 + 1]? = some (.cells (hc zeros) t (0, 0))
  bel : Below w.heap.size w W
theorem PjM.start (w : World) (t : TypeId) (a b : List UInt8) : PjM w (((w.alloc (.cells (hc a) t)).alloc (.cells (hc b) t)).alloc (.cells (hc zeros) t)) t a b := by
  obtain ⟨e1, e2, e3⟩ := blk3 w (.cells (hc a) t) (.cells (hc b) t) (.cells (hc zeros) t)
  exact ⟨e1, e2, e3, below3 w _ _ _⟩
theorem PjM.next {w W W' : World} {t : TypeId} {a b : List UInt8} (j : PjM w W t a b) (h : Below W.heap.size W W') : PjM w W' t a b :=
  ⟨(h.block _ (lt_heap j.a)).trans j.a, (h.block _ (lt_heap j.b)).trans j.b, (h.block _ (lt_heap j.r)).trans j.r, below_next j.bel h⟩
theorem PjM.drew {w W : World} {t : TypeId} {a b : List UInt8} (j : PjM w W t a b) : PjM w W.drew t a b := ⟨j.a, j.b, j.r, j.bel.drew⟩
def svh (x y : Value) : Sem Unit := Instr.storeAt 25 x y
theorem svh_eq (x y : Value) : Instr.storeAt 25 x y = svh x y := rfl
def svg (x y : Value) : Sem Unit := Instr.storeAt 24 x y
theorem svg_eq (x y : Value) : Instr.storeAt 24 x y = svg x y := rfl
theorem svh_row {w : World} {g : Nat} {t : TypeId} {c d : List UInt8} (hg : w.heap[g]? = some (.cells (hc c) t (0, 0))) (hl : c.length = 32) (hd : d.length = 32) : (svh (.pointer (some ⟨g, 0, none⟩)) (.agg (hc d))).run Tryz.prog w = .ok () (w.setRow g (hc d)) := by
  unfold svh
  simp only [Instr.storeAt, Instr.sureAddr, Sem.run_bind, Sem.run_pure, Result.andThen_ok]
  rw [run_storeVar_row w g t 25 (hc c) (hc d) hg (by rw [A25.info, hc_size, hd]) (by rw [hc_size, hc_size, hl, hd]) (hc_one _)]
theorem svg_row {w : World} {g : Nat} {t : TypeId} {c d : List UInt8} (hg : w.heap[g]? = some (.cells (hc c) t (0, 0))) (hl : c.length = 32) (hd : d.length = 32) : (svg (.pointer (some ⟨g, 0, none⟩)) (.agg (hc d))).run Tryz.prog w = .ok () (w.setRow g (hc d)) := by
  unfold svg
  simp only [Instr.storeAt, Instr.sureAddr, Sem.run_bind, Sem.run_pure, Result.andThen_ok]
  rw [run_storeVar_row w g t 24 (hc c) (hc d) hg (by rw [A24.info, hc_size, hd]) (by rw [hc_size, hc_size, hl, hd]) (hc_one _)]
attribute [local go_sem ↓] svh_eq svg_eq
section
set_option maxRecDepth 10000
set_option maxHeartbeats 2000000
theorem pair_any (a b : List UInt8) (ha : a.length = 32) (hb : b.length = 32) (w : World) (hK : Kg w) : Calls Tryz.prog 138 #[.agg (hc a), .agg (hc b)] w fun e w' => e = .returned (.agg (hc (pr a b))) ∧ Below w.heap.size w w' := by
  have J0 := hide (PjM.start w 25 a b)
  have HT : Hid (∀ W, Kg W → Calls Tryz.prog 45 #[.string ⟨(a ++ b).toArray⟩] W fun e w' => e = .returned (.agg (hc (pr a b))) ∧ Below W.heap.size W w') := fun W hW => twice_any ⟨(a ++ b).toArray⟩ (by rw [bs_size, List.length_append]; omega) W hW
  have hpl := pr_len a b
  have HK := hide (hK.next J0.out.bel)
  have app := bs_app a b
  have sz : ¬ 9223372036854775807 < (⟨a.toArray⟩ : ByteArray).size + (⟨b.toArray⟩ : ByteArray).size := by rw [bs_size, bs_size]; omega
  have HL := hide (And.intro ha (And.intro hb hpl))
  generalize (⟨(a ++ b).toArray⟩ : ByteArray) = S at *
  generalize hp : pr a b = p at *
  clear hp hK
  go_enter Tryz.func138, Tryz.ntmps138
  go_upto_region 1 with (first | refine wpList_boxA rfl _ rfl (hc a) rfl ?_ | refine wpList_boxA rfl _ rfl (hc b) rfl ?_ | refine wpList_allocA A25 rfl rfl ?_)
  generalize ((w.alloc (.cells (hc a) 25)).alloc (.cells (hc b) 25)).alloc (.cells (hc zeros) 25) = W0 at *
  have c1 := conv_row W0.drew w.heap.size a ha 25 J0.out.a
  have c2 := conv_row W0.drew (w.heap.size + 1) b hb 25 J0.out.b
  generalize hA : (⟨a.toArray⟩ : ByteArray) = A at *
  generalize hB : (⟨b.toArray⟩ : ByteArray) = B at *
  clear ha hb hpl hA hB
  go_region_with (go_at_call 45; refine (HT.out _ (Kg.drew HK.out)).mono ?_; rintro e w1 ⟨rfl, be⟩; have J1 := hide (J0.out.drew.next be); have s1 := svh_row J1.out.r zeros_len HL.out.2.2; clear be)
  all_goals
    go_wp2
    exact bodyPost_ret (v := .agg (hc p)) (resA A25 Tryz.results138 _ _ (w.heap.size + 1 + 1) 25 _ (by rw [hc_size, HL.out.2.2]) rfl (setRow_heap _ _ _ _ _ _ J1.out.r)) rfl ⟨rfl, below_setRow J1.out.bel (by omega) _⟩
theorem rpair_any (a b : List UInt8) (ha : a.length = 32) (hb : b.length = 32) (w : World) : Calls Tryz.prog 140 #[.agg (hc a), .agg (hc b)] w fun e w' => e = .returned (.agg (hc (pr a b))) ∧ Below w.heap.size w w' := by
  have J0 := hide (PjM.start w 24 a b)
  have HT : Hid (∀ W, Calls Tryz.prog 24 #[.string ⟨(a ++ b).toArray⟩] W fun e w' => e = .returned (.agg (hc (pr a b))) ∧ Below W.heap.size W w') := fun W => rtwice_any ⟨(a ++ b).toArray⟩ (by rw [bs_size, List.length_append]; omega) W
  have hpl := pr_len a b
  have app := bs_app a b
  have sz : ¬ 9223372036854775807 < (⟨a.toArray⟩ : ByteArray).size + (⟨b.toArray⟩ : ByteArray).size := by rw [bs_size, bs_size]; omega
  have HL := hide (And.intro ha (And.intro hb hpl))
  generalize (⟨(a ++ b).toArray⟩ : ByteArray) = S at *
  generalize hp : pr a b = p at *
  clear hp
  go_enter Tryz.func140, Tryz.ntmps140
  go_upto_region 1 with (first | refine wpList_boxA rfl _ rfl (hc a) rfl ?_ | refine wpList_boxA rfl _ rfl (hc b) rfl ?_ | refine wpList_allocA A24 rfl rfl ?_)
  generalize ((w.alloc (.cells (hc a) 24)).alloc (.cells (hc b) 24)).alloc (.cells (hc zeros) 24) = W0 at *
  have c1 := conv_row W0.drew w.heap.size a ha 24 J0.out.a
  have c2 := conv_row W0.drew (w.heap.size + 1) b hb 24 J0.out.b
  generalize hA : (⟨a.toArray⟩ : ByteArray) = A at *
  generalize hB : (⟨b.toArray⟩ : ByteArray) = B at *
  clear ha hb hpl hA hB
  go_region_with (go_at_call 24; refine (HT.out _).mono ?_; rintro e w1 ⟨rfl, be⟩; have J1 := hide (J0.out.drew.next be); have s1 := svg_row J1.out.r zeros_len HL.out.2.2; clear be)
  all_goals
    go_wp2
    exact bodyPost_ret (v := .agg (hc p)) (resA A24 Tryz.results140 _ _ (w.heap.size + 1 + 1) 24 _ (by rw [hc_size, HL.out.2.2]) rfl (setRow_heap _ _ _ _ _ _ J1.out.r)) rfl ⟨rfl, below_setRow J1.out.bel (by omega) _⟩
end
end Go.Proofs.YtofddbjnncgmlabGreatDoor
namespace Go.Proofs.YtofddbjnncgmlabGreatDoor
open Go.RowKit
open Go.Deep
theorem ET.bs1 {t e : TypeId} (E : ET t e) (w : World) (h : List UInt8) (hl : h.length = 32) : (Instr.buildSlice t 1 #[(0, .agg (hc h))]).run Tryz.prog w = .ok (.slice (some ⟨w.heap.size, 0, none⟩) 1 1) (w.alloc (.cells (hc h) e)) := by
  obtain ⟨i, z, hi, hz, hzs, hs, _⟩ := E.parts
  have hcs : (Value.agg (hc h)).cells.size = 32 := by show (hc h).size = 32; rw [hc_size, hl]
  obtain ⟨r, hr, hrs, hk⟩ := Great.fill_dense (s := 32) (by decide) [Value.agg (hc h)] 0 ((Array.range (1 * 32)).map (z.cells[· % z.cells.size]!)) (fun v hv => by simp at hv; rw [hv]; exact hcs) (by simp)
  have e1 : r = hc h := by
    apply Array.ext
    · rw [hrs, hc_size, hl]; simp
    · intro k h1 h2
      have hk1 : k < 32 := by rw [hc_size, hl] at h2; exact h2
      have := hk k
      rw [if_pos ⟨by omega, by simp; omega⟩, Array.getElem?_eq_getElem h1, show k / 32 - 0 = 0 by omega, Nat.mod_eq_of_lt hk1] at this
      simp only [List.getElem?_cons_zero, Option.bind_some] at this
      rw [show (Value.agg (hc h)).cells = hc h from rfl, Array.getElem?_eq_getElem h2] at this
      exact Option.some.inj this
  rw [e1] at hr
  refine run_buildSlice (P := Tryz.prog) w t e 1 #[(0, .agg (hc h))] (hc h) i z E.sl hi hz (by rw [hs]; decide) (by rw [hs]; decide) ?_
  rw [hs]
  exact hr
theorem ET.bs0 {t e : TypeId} (E : ET t e) (w : World) : (Instr.buildSlice t 0 #[]).run Tryz.prog w = .ok (.slice (some ⟨w.heap.size, 0, none⟩) 0 0) (w.alloc (.cells #[] e)) := by
  obtain ⟨i, z, hi, hz, hzs, hs, _⟩ := E.parts
  simp [Instr.buildSlice, run_underlying E.sl, sizeOf, typeInfo, hi, Instr.fill, newRow]
  have h0 : Array.map (fun _ : Nat => (default : Value)) (Array.range 0) = #[] := Array.eq_empty_of_size_eq_zero (by simp)
  rw [h0]
theorem OH.new0 {e : TypeId} (w : World) : OH e (w.alloc (.cells #[] e)) (.slice (some ⟨w.heap.size, 0, none⟩) 0 0) [] :=
  ⟨H32.nil, rfl, .inr ⟨w.heap.size, 0, #[], rfl, Nat.zero_le _, heap_alloc_last _ _, Nat.le_refl _, by unfold maxLen; omega, rfl, rfl⟩⟩
/-- The cells of a block that was just laid. -/
theorem one_newH {e : TypeId} (w : World) (h : List UInt8) : ∀ j u, (flat [h])[j]? = some u → (w.alloc (.cells (hc h) e)).cell? ((⟨w.heap.size, 0, none⟩ : Addr).add j) = some u := by
  intro j u hu
  rw [flat_one] at hu
  have hadd : (⟨w.heap.size, 0, none⟩ : Addr).add j = ⟨w.heap.size, 0 + j, none⟩ := by unfold Addr.add; split <;> simp_all
  rw [hadd, cell_of_row _ _ _ _ _ _ (heap_alloc_last w _), Nat.zero_add]
  simpa [hc] using hu
section
variable {w : World} {ops : Array Oper} {o : Oper} {a : Act} {K : Act → World → Prop} {Q : Exit → Act → World → Prop} {E0 : Prop}
/-- An append of one id, as one step of a region that draws. -/
theorem ET.step {t e : TypeId} (E : ET t e) (hgd : o.guard = none) (s x : Operand)
    (ho : o.op = .call { callee := .builtin .append, args := #[s, x], argTypes := #[t, t] })
    (v : Value) (L : List (List UInt8)) (hs : a.eval s = v) (hown : OH e w v L)
    (ad : Addr) (h : List UInt8) (hh : h.length = 32) (hx : a.eval x = .slice (some ad) 1 1) (hnews : ∀ j u, (flat [h])[j]? = some u → w.cell? (ad.add j) = some u) (hsm : L.length + 1 ≤ 4398046511104)
    (h : ∀ v' w', OH e w' v' (L ++ [h]) → Onto w w' v v' → K (a.put o.dst v') w') :
    if Region.wanted o (yielded ops a.tmps) = true then Oper.wp Tryz.prog o a w K Q else E0 := by
  have hw : Region.wanted o (yielded ops a.tmps) = true := by simp [Region.wanted, hgd]
  rw [if_pos hw]
  obtain ⟨v', w', hr, h2, h3⟩ := E.app (ty := o.type) hown ad 1 1 [_] (H32.one hh) rfl hnews hsm
  unfold Oper.wp execOp
  simp only [ho, resolve, invoke, builtin, Sem.run_bind, Sem.run_pure, Result.andThen_ok, List.map_toArray, List.map_cons, List.map_nil, hs, hx, hr]
  exact h v' w' h2 h3
end
section
variable {w : World} {ops : Array Oper} {rest : List Oper} {o : Oper} {a : Act} {Q : Exit → Act → World → Prop}
theorem ET.wpApp {t e : TypeId} (E : ET t e) (hgd : o.guard = none) (s x : Operand)
    (ho : o.op = .call { callee := .builtin .append, args := #[s, x], argTypes := #[t, t] })
    (v : Value) (L : List (List UInt8)) (hs : a.eval s = v) (hown : OH e w v L)
    (ad : Addr) (h : List UInt8) (hh : h.length = 32) (hx : a.eval x = .slice (some ad) 1 1) (hnews : ∀ j u, (flat [h])[j]? = some u → w.cell? (ad.add j) = some u) (hsm : L.length + 1 ≤ 4398046511104)
    (h : ∀ v' w', OH e w' v' (L ++ [h]) → Onto w w' v v' → wpList Tryz.prog ops Q rest (a.put o.dst v') w') :
    wpList Tryz.prog ops Q (o :: rest) a w := by
  refine wpList_plain hgd fun K hK => ?_
  obtain ⟨v', w', hr, h2, h3⟩ := E.app (ty := o.type) hown ad 1 1 [_] (H32.one hh) rfl hnews hsm
  unfold Oper.wp execOp
  simp only [ho, resolve, invoke, builtin, Sem.run_bind, Sem.run_pure, Result.andThen_ok, List.map_toArray, List.map_cons, List.map_nil, hs, hx, hr]
  exact hK _ _ (h v' w' h2 h3)
theorem ET.wpBs1 {t e : TypeId} (E : ET t e) (hgd : o.guard = none) (x : Operand) (ho : o.op = .buildSlice t 1 #[(0, x)]) (h : List UInt8) (hl : h.length = 32) (hx : a.eval x = .agg (hc h))
    (hk : wpList Tryz.prog ops Q rest (a.put o.dst (.slice (some ⟨w.heap.size, 0, none⟩) 1 1)) (w.alloc (.cells (hc h) e))) : wpList Tryz.prog ops Q (o :: rest) a w := by
  refine wpList_plain hgd fun K hK => ?_
  unfold Oper.wp execOp
  simp only [ho, List.map_toArray, List.map_cons, List.map_nil, hx, E.bs1 w h hl, Sem.run_bind, Result.andThen_ok, Sem.run_pure]
  exact hK _ _ hk
theorem ET.wpBs0 {t e : TypeId} (E : ET t e) (hgd : o.guard = none) (ho : o.op = .buildSlice t 0 #[])
    (hk : wpList Tryz.prog ops Q rest (a.put o.dst (.slice (some ⟨w.heap.size, 0, none⟩) 0 0)) (w.alloc (.cells #[] e))) : wpList Tryz.prog ops Q (o :: rest) a w := by
  refine wpList_plain hgd fun K hK => ?_
  unfold Oper.wp execOp
  simp only [ho, List.map_toArray, List.map_nil, E.bs0 w, Sem.run_bind, Result.andThen_ok, Sem.run_pure]
  exact hK _ _ hk
/-- The load of an id out of a list of ids. -/
theorem ET.wpLoad {t e : TypeId} (E : ET t e) (hgd : o.guard = none) (x : Operand) (ho : o.op = .load e x) (g off : Nat) (hx : a.eval x = .pointer (some ⟨g, off, none⟩)) (l : List UInt8) (hl : l.length = 32) (hr : w.rangeAt g off (cellsL l))
    (h : wpList Tryz.prog ops Q rest (a.put o.dst (.agg (hc l))) w) : wpList Tryz.prog ops Q (o :: rest) a w := by
  refine wpList_plain hgd fun K hK => ?_
  unfold Oper.wp execOp
  simp only [ho, hx, Sem.run_bind, E.load hl hr, Result.andThen_ok, Sem.run_pure]
  exact hK _ _ h
end
/-! ### levels -/
/-- The place that stands with one. -/
def mtM (n p : Nat) : Nat := if (if p % 2 = 0 then p + 1 else p - 1) < n then (if p % 2 = 0 then p + 1 else p - 1) else p
theorem mt_lt (n p : Nat) (h : p < n) : mtM n p < n := by
  unfold mtM
  by_cases h1 : (if p % 2 = 0 then p + 1 else p - 1) < n
  · rw [if_pos h1]
    exact h1
  · rw [if_neg h1]
    exact h
theorem xor1 (p : Nat) : p ^^^ 1 = if p % 2 = 0 then p + 1 else p - 1 := by
  have h1 : (p ^^^ 1) / 2 = p / 2 := by rw [Nat.xor_div_two]; simp
  have h2 : (p ^^^ 1) % 2 = (p + 1) % 2 := by
    have := Nat.xor_mod_two_pow (a := p) (b := 1) (n := 1)
    rw [Nat.pow_one] at this
    rw [this]
    rcases Nat.mod_two_eq_zero_or_one p with h | h <;> rw [h] <;> simp <;> omega
  split <;> omega
theorem i64_xor1 (p : Nat) (h : p < 4611686018427387904) : bits .xor .i64 (p : Int) 1 = ((if p % 2 = 0 then p + 1 else p - 1 : Nat) : Int) := by
  have hx : p ^^^ 1 < 2 ^ 63 := Nat.xor_lt_two_pow (by omega) (by omega)
  rw [← xor1]
  show IntKind.i64.wrap ((BitVec.ofInt 64 (p : Int) ^^^ BitVec.ofInt 64 ((1 : Nat) : Int)).toNat : Int) = _
  rw [BitVec.toNat_xor, ofInt_u64 p (by omega), ofInt_u64 1 (by omega)]
  exact wrapI _ (by omega) (by omega)
theorem mate_any (p n : Nat) (hp : p < 4611686018427387904) (w : World) : Calls Tryz.prog 139 #[.int .i64 (p : Int), .int .i64 (n : Int)] w fun e w' => e = .returned (.int .i64 ((mtM n p : Nat) : Int)) ∧ w' = w := by
  have hx := i64_xor1 p hp
  obtain ⟨q, hq⟩ : ∃ q, q = (if p % 2 = 0 then p + 1 else p - 1) := ⟨_, rfl⟩
  have hm : mtM n p = if q < n then q else p := by rw [hq]; rfl
  rw [← hq] at hx
  clear hq
  by_cases h : q < n
  · rw [hm, if_pos h]
    have h1 : (q : Int) < (n : Int) := by omega
    clear hm h hp
    go_enter Tryz.func139, Tryz.ntmps139
    go_wp2
    go_ret
    exact ⟨rfl, rfl⟩
  · rw [hm, if_neg h]
    have h1 : ¬ (q : Int) < (n : Int) := by omega
    clear hm h hp
    go_enter Tryz.func139, Tryz.ntmps139
    go_wp2
    go_ret
    exact ⟨rfl, rfl⟩
/-- The level above one. -/
def nx (L : List (List UInt8)) (k : Nat) : List UInt8 := pr (ia L (2 * k)) (ia L (mtM L.length (2 * k)))
def nxK (L : List (List UInt8)) (k : Nat) : List (List UInt8) := (List.range k).map (nx L)
def nxt (L : List (List UInt8)) : List (List UInt8) := nxK L ((L.length + 1) / 2)
theorem nxK_len (L : List (List UInt8)) (k : Nat) : (nxK L k).length = k := by simp [nxK]
theorem nxt_len (L : List (List UInt8)) : (nxt L).length = (L.length + 1) / 2 := nxK_len _ _
theorem nxK_snoc (L : List (List UInt8)) (k : Nat) : nxK L (k + 1) = nxK L k ++ [nx L k] := by simp [nxK, List.range_succ]
theorem nxK_32 (L : List (List UInt8)) (k : Nat) : H32 (nxK L k) := by
  intro h hh
  simp only [nxK, List.mem_map] at hh
  obtain ⟨i, _, rfl⟩ := hh
  exact pr_len _ _
theorem nxt_32 (L : List (List UInt8)) : H32 (nxt L) := nxK_32 _ _
/-- Two that stand together are the same. -/
def twK (L : List (List UInt8)) (k : Nat) : Bool := (List.range k).any fun i => ia L (2 * i) == ia L (2 * i + 1)
def twb (L : List (List UInt8)) : Bool := twK L (L.length / 2)
theorem twK_snoc (L : List (List UInt8)) (k : Nat) : twK L (k + 1) = (twK L k || (ia L (2 * k) == ia L (2 * k + 1))) := by simp [twK, List.range_succ]
/-- How many ids a level has. -/
def wdt : Nat → Nat → Nat
  | n, 0 => n
  | n, k + 1 => wdt ((n + 1) / 2) k
theorem wdt_le : ∀ k n, wdt n k ≤ n
  | 0, _ => Nat.le_refl _
  | k + 1, n => by
    rw [wdt]
    have := wdt_le k ((n + 1) / 2)
    rcases n with _ | n
    · have := wdt_le k 0
      simpa using this
    · omega
section
set_option maxRecDepth 10000
set_option maxHeartbeats 1000000
theorem width_any (n k : Nat) (hn : n < 4611686018427387904) (hk : k < 4611686018427387904) (w : World) : Calls Tryz.prog 137 #[.int .i64 (n : Int), .int .i64 (k : Int)] w fun e w' => e = .returned (.int .i64 ((wdt n k : Nat) : Int)) ∧ w' = w := by
  have HN := hide (And.intro hn hk)
  clear hn hk
  go_enter Tryz.func137, Tryz.ntmps137
  go_wp2
  go_loop [0, 6] (fun x i => ∃ m j : Nat, j ≤ k ∧ m < 4611686018427387904 ∧ x = .int .i64 (m : Int) ∧ i = .int .i64 (j : Int) ∧ Hid (wdt m (k - j) = wdt n k)) (fun _ i => (k - intOf i).toNat)
  case atStart => exact ⟨n, 0, by omega, HN.out.1, rfl, rfl, rfl⟩
  case round =>
    obtain ⟨m, j, hj, hm, rfl, rfl, HW⟩ := hrel
    have hk := HN.out.2
    by_cases hlt : j < k
    · have h1 : (j : Int) < (k : Int) := by omega
      have hw : wdt ((m + 1) / 2) (k - (j + 1)) = wdt n k := by
        rw [← HW.out, show k - j = (k - (j + 1)) + 1 by omega]
        rfl
      have e1 : IntKind.i64.wrap ((m : Int) / 2 + (m : Int) % 2) = (((m + 1) / 2 : Nat) : Int) := by rw [wrapI _ (by omega) (by omega)]; omega
      have hjw : IntKind.i64.wrap ((j : Int) + 1) = j + 1 := wrapI _ (by omega) (by omega)
      have HW2 := hide hw
      have m0 : (0 : Int) ≤ m := by omega
      clear hw HW
      go_wp2
      go_round
      case rel => exact ⟨(m + 1) / 2, j + 1, by omega, by omega, by first | rfl | (congr 1; omega), by go_num, HW2⟩
      case measure => simp [intOf]; omega
    · have h1 : ¬ (j : Int) < (k : Int) := by omega
      have he : m = wdt n k := by
        have := HW.out
        rw [show k - j = 0 by omega] at this
        exact this
      have HE := hide he
      clear HW hlt hj he
      go_wp2
      go_ret
      exact ⟨by rw [HE.out]; rfl, rfl⟩
end
end Go.Proofs.YtofddbjnncgmlabGreatDoor
namespace Go.Proofs.YtofddbjnncgmlabGreatDoor
open Go.RowKit
open Go.Deep
theorem LH.base {w : World} {ao : Option Addr} {n cap : Nat} {L : List (List UInt8)} (h : LH w (.slice ao n cap) L) (h0 : 0 < L.length) : ∃ g off, ao = some ⟨g, off, none⟩ := by
  obtain ⟨_, ao', cap', e, _, hat⟩ := h
  injection e with e1 e2 e3
  subst e1
  obtain ⟨g, off, e, _⟩ := hat 0 h0
  exact ⟨g, off, e⟩
theorem LH.range {w : World} {g off n cap : Nat} {L : List (List UInt8)} (h : LH w (.slice (some ⟨g, off, none⟩) n cap) L) (i : Nat) (hi : i < L.length) : w.rangeAt g (off + i * 32) (cellsL (ia L i)) := by
  obtain ⟨_, ao', cap', e, _, hat⟩ := h
  injection e with e1 e2 e3
  subst e1
  obtain ⟨g', off', e, _, hr⟩ := hat i hi
  injection e with e
  injection e with e1 e2
  subst e1 e2
  exact hr
theorem LH.len {w : World} {ao : Option Addr} {n cap : Nat} {L : List (List UInt8)} (h : LH w (.slice ao n cap) L) : n = L.length := by
  obtain ⟨_, ao', cap', e, _, hat⟩ := h
  injection e
theorem LH.form {w : World} {v : Value} {L : List (List UInt8)} (h : LH w v L) : ∃ ao cap, v = .slice ao L.length cap := by
  obtain ⟨_, ao', cap', e, _, hat⟩ := h
  exact ⟨_, _, e⟩
/-- The load of an id out of a list of ids, as an operation of a quiet walk. -/
theorem ET.qLoad {t e : TypeId} (E : ET t e) {C : World → Prop} {a : Act} {o : Oper} {K : Act → Prop} (x : Operand) (ho : o.op = .load e x) (g off : Nat) (hx : a.eval x = .pointer (some ⟨g, off, none⟩)) (l : List UInt8) (hl : l.length = 32) (hr : ∀ W, C W → W.rangeAt g off (cellsL l))
    (hk : K (a.put o.dst (.agg (hc l)))) : o.quiet Tryz.prog a C K := by
  refine ⟨.agg (hc l), fun W hC => ?_, hk⟩
  unfold Oper.quietAt execOp
  simp only [ho, hx, Sem.run_bind, E.load hl (hr W hC), Result.andThen_ok, Sem.run_pure]
  exact ⟨rfl, rfl⟩
theorem eqH {t e : TypeId} (E : ET t e) (a b : List UInt8) (ha : a.length = 32) (hb : b.length = 32) (W : World) : (Op.equalIn 10000 e (.agg (hc a)) (.agg (hc b))).run Tryz.prog W = .ok (a == b) W :=
  run_equalIn_bytes (P := Tryz.prog) W 9998 e 5 32 E.ar Tryz.underlying5 size5 a b ha hb
theorem eqg24 : Tryz.prog.eqGuardType Tryz.prog.depth 24 = false := by kernel_rfl
/-- Worlds in which ids lie, as a class. -/
theorem LH.cls {w W : World} {v : Value} {L : List (List UInt8)} (h : LH W v L) (hb : Below w.heap.size w W) : ∃ (I : Type) (_ : Nonempty I) (F : I → World) (i0 : I), W.drew = F i0 ∧ Hid (∀ i, LH (F i) v L ∧ Below w.heap.size w (F i)) ∧ Hid (∀ i W', Below (F i).heap.size (F i) W' → ∃ j, W' = F j) :=
  ⟨{W : World // LH W v L ∧ Below w.heap.size w W}, ⟨⟨_, h, hb⟩⟩, Subtype.val, ⟨W.drew, h.drew, hb.drew⟩, rfl, fun i => i.2, fun i W' b => ⟨⟨W', i.2.1.below b, below_next i.2.2 b⟩, rfl⟩⟩
section
set_option maxRecDepth 10000
set_option maxHeartbeats 2000000
theorem twins_any (v : Value) (L : List (List UInt8)) (w : World) (hL : LH w v L) (hn : L.length < 1152921504606846976) : Calls Tryz.prog 104 #[v] w fun e w' => e = .returned (.bool (twb L)) ∧ Below w.heap.size w w' := by
  obtain ⟨ao, cap, rfl⟩ := hL.form
  have J0 : Hid (LH w (.slice ao L.length cap) L ∧ Below w.heap.size w w) := ⟨hL, Below.refl _ _⟩
  have HN := hide hn
  have H32 := hide hL.1
  clear hL hn
  go_enter Tryz.func104, Tryz.ntmps104
  go_wp2
  go_loopw [3] (fun i wr => ∃ k : Nat, k ≤ L.length / 2 ∧ i = .int .i64 ((2 * k + 1 : Nat) : Int) ∧ Hid (LH wr (.slice ao L.length cap) L ∧ Below w.heap.size w wr) ∧ Hid (twK L k = false)) (fun i _ => (L.length + 2 - intOf i).toNat)
  case atStart => exact ⟨0, Nat.zero_le _, rfl, J0, rfl⟩
  case round =>
    clear J0
    obtain ⟨k, hk, rfl, J, T⟩ := hrel
    have hn := HN.out
    by_cases hlt : 2 * k + 1 < L.length
    · obtain ⟨g, off, rfl⟩ := J.out.1.base (by omega)
      have h1 : ((2 * k + 1 : Nat) : Int) < (L.length : Int) := by omega
      have l1 := hide (H32.out.at (2 * k) (by omega))
      have l2 := hide (H32.out.at (2 * k + 1) hlt)
      have EQ := hide fun W => eqH EH _ _ l1.out l2.out W
      have R1 : Hid (∀ W, LH W (.slice (some ⟨g, off, none⟩) L.length cap) L → W.rangeAt g (off + (2 * k) * 32) (cellsL (ia L (2 * k)))) := fun W h => h.range (2 * k) (by omega)
      have R2 : Hid (∀ W, LH W (.slice (some ⟨g, off, none⟩) L.length cap) L → W.rangeAt g (off + (2 * k + 1) * 32) (cellsL (ia L (2 * k + 1)))) := fun W h => h.range (2 * k + 1) hlt
      have TS := hide (twK_snoc L k)
      have e1 : IntKind.i64.wrap (((2 * k + 1 : Nat) : Int) - 1) = ((2 * k : Nat) : Int) := by rw [wrapI _ (by omega) (by omega)]; omega
      have e2 : IntKind.i64.wrap (((2 * k + 1 : Nat) : Int) + 2) = ((2 * (k + 1) + 1 : Nat) : Int) := by rw [wrapI _ (by omega) (by omega)]; omega
      have h2 : (0 : Int) ≤ ((2 * k : Nat) : Int) := by omega
      have h3 : ((2 * k : Nat) : Int) < (L.length : Int) := by omega
      have h4 : (0 : Int) ≤ ((2 * k + 1 : Nat) : Int) := by omega
      have KK := hide (And.intro (show k + 1 ≤ L.length / 2 by omega) (show ((L.length : Int) + 2 - ((2 * (k + 1) + 1 : Nat) : Int)).toNat < ((L.length : Int) + 2 - ((2 * k + 1 : Nat) : Int)).toNat by omega))
      have TB : Hid ((ia L (2 * k) == ia L (2 * k + 1)) = true → twb L = true) := fun h => by
        have hh : k + 1 ≤ L.length / 2 := KK.out.1
        unfold twb twK
        rw [List.any_eq_true]
        exact ⟨k, by simp; omega, h⟩
      generalize hia : ia L (2 * k) = A at *
      generalize hib : ia L (2 * k + 1) = B at *
      clear hia hib hlt hk hn
      generalize hp : 2 * (k + 1) + 1 = p3 at *
      have HP3 := hide hp
      generalize 2 * k + 1 = p2 at *
      generalize 2 * k = p1 at *
      clear hp
      go_upto_region 4 with fail
      obtain ⟨I, hne, F, i0, h0, hJ, hcl⟩ := J.out.1.cls J.out.2
      refine wp_region_class_lit (by kernel_rfl) (by kernel_rfl) i0 h0 ?_
      repeat (first | ((go_big_quiet_want; first | refine ET.qLoad EH _ (by rfl) g (off + p1 * 32) (by rfl) A l1.out (fun W hC => by obtain ⟨i, rfl⟩ := hC; exact R1.out _ (hJ.out i).1) ?_ | refine ET.qLoad EH _ (by rfl) g (off + p2 * 32) (by rfl) B l2.out (fun W hC => by obtain ⟨i, rfl⟩ := hC; exact R2.out _ (hJ.out i).1) ?_ | refine quiet_eql 25 _ _ _ (by rfl) (hc A) (hc B) (by rfl) (by rfl) eqg25 (A == B) EQ.out ?_); go_big_quiet_on; simp only [Act.put, List.setIfInBounds_toArray, List.set_cons_succ, List.set_cons_zero]) | go_big_quiet_step (fail))
      refine wpQuiet_nil ?_
      rintro _ ⟨iq, rfl⟩
      have J2 := hide (hJ.out iq)
      clear hJ hcl h0 J R1 R2 EQ
      generalize F iq = W2 at *
      generalize (A == B) = ab at *
      cases ab
      · go_wp2
        exact ⟨⟨k + 1, KK.out.1, by rw [HP3.out], J2, by rw [TS.out, T.out]; rfl⟩, by simpa [intOf, HP3.out] using KK.out.2⟩
      · have HT := hide (TB.out rfl)
        go_wp2
        go_ret
        exact ⟨by rw [HT.out]; rfl, J2.out.2⟩
    · have h1 : ¬ ((2 * k + 1 : Nat) : Int) < (L.length : Int) := by omega
      have hT : twb L = false := by
        unfold twb
        rw [show L.length / 2 = k by omega]
        exact T.out
      have HT := hide hT
      clear hlt hk hn hT
      generalize 2 * k + 1 = p2 at *
      go_wp2
      go_ret
      exact ⟨by rw [HT.out]; rfl, J.out.2⟩
end
end Go.Proofs.YtofddbjnncgmlabGreatDoor
namespace Go.Proofs.YtofddbjnncgmlabGreatDoor
open Go.RowKit
open Go.Deep
def ldh (x : Value) : Sem Value := Instr.loadAt 25 x
theorem ldh_eq (x : Value) : Instr.loadAt 25 x = ldh x := rfl
def bsh (x : Value) : Sem Value := Instr.buildSlice 161 1 #[(0, x)]
theorem bsh_eq (x : Value) : Instr.buildSlice 161 1 #[(0, x)] = bsh x := rfl
theorem Onto.of_below {W W' : World} (h : Below W.heap.size W W') (v : Value) : Onto W W' v v := ⟨⟨h.os, h.tape, h.output, h.size, fun k hk _ => h.block k hk⟩, .inl rfl⟩
theorem OH.drew {e : TypeId} {w : World} {v : Value} {L : List (List UInt8)} (h : OH e w v L) : OH e w.drew v L := h.of_block fun _ _ => rfl
/-- A list of the program's own, in blocks that a call made. -/
structure Oj (e : TypeId) (w W : World) (v : Value) (L : List (List UInt8)) : Prop where
  own : OH e W v L
  bel : Below w.heap.size w W
  far : ∀ g, v.ownBlock = some g → w.heap.size ≤ g
section
variable {e : TypeId} {w W W' : World} {v v' : Value} {L L' : List (List UInt8)}
theorem Oj.next (j : Oj e w W v L) (h : Below W.heap.size W W') : Oj e w W' v L := ⟨j.own.below h, below_next j.bel h, j.far⟩
theorem Oj.drew (j : Oj e w W v L) : Oj e w W.drew v L := j.next (Below.refl _ _).drew
theorem Oj.onto (j : Oj e w W v L) (h : Onto W W' v v') (o : OH e W' v' L') : Oj e w W' v' L' := ⟨o, j.bel.trans (h.below j.bel.size j.far), h.far j.bel.size j.far⟩
/-- Worlds in which the list lies, as a class. -/
theorem Oj.cls (j : Oj e w W v L) : ∃ (I : Type) (_ : Nonempty I) (F : I → World) (i0 : I), W.drew = F i0 ∧ Hid (∀ i, Oj e w (F i) v L) ∧ Hid (∀ i W', Below (F i).heap.size (F i) W' → ∃ j, W' = F j) :=
  ⟨{W : World // Oj e w W v L}, ⟨⟨_, j⟩⟩, Subtype.val, ⟨W.drew, j.drew⟩, rfl, fun i => i.2, fun i W' b => ⟨⟨W', i.2.next b⟩, rfl⟩⟩
end
attribute [-go_sem] Instr.buildSlice
attribute [local go_sem ↓] ldh_eq
attribute [local go_sem] bsh_eq
section
set_option maxRecDepth 10000
set_option maxHeartbeats 4000000
theorem above_any (v : Value) (L : List (List UInt8)) (w : World) (hL : LH w v L) (hn : L.length < 4398046511104) (hK : Kg w) : Calls Tryz.prog 105 #[v] w fun e w' => ∃ v', e = .returned v' ∧ Oj 25 w w' v' (nxt L) := by
  obtain ⟨ao, cap, rfl⟩ := hL.form
  obtain ⟨i0, z, hi, hz, hzs, hs, hby⟩ := EH.parts
  have HL := hide hL
  have KW : Hid (∀ W, Below w.heap.size w W → Kg W) := fun W h => hK.next h
  have HW := hide fun W => width_any L.length 1 (by omega) (by omega) W
  have HN := hide hn
  have H3 := hide hL.1
  have hw1 : wdt L.length 1 = (L.length + 1) / 2 := rfl
  rw [hw1] at HW
  clear hL hK hw1
  go_enter Tryz.func105, Tryz.ntmps105
  go_wp2_with (first | (go_at_call 137; refine (HW.out _).mono ?_; rintro e w1 ⟨rfl, hww⟩; subst w1) | (at_make; refine wpList_make_own _ rfl _ _ 161 rfl 0 25 i0 z 32 Tryz.underlying161 hi hz hs _ _ _ ((L.length + 1) / 2) rfl rfl (by omega) (by rw [hby]; omega) (by unfold maxLen; omega) (Nat.zero_le _) ?_; intro w2 hown1 hgrow1))
  have J0 : Hid (Oj 25 w w2 (.slice (some ⟨w.heap.size, 0, none⟩) 0 ((L.length + 1) / 2)) (nxK L 0)) := ⟨⟨H32.nil, hown1⟩, (Below.refl _ _).grown hgrow1 (Nat.le_refl _) (by intro k hk; cases hk), fun g hg => by cases hg; exact Nat.le_refl _⟩
  clear hown1 hgrow1 hi hz hzs hs hby HW
  go_loopw [3, 4] (fun v d wr => ∃ k : Nat, k ≤ (L.length + 1) / 2 ∧ d = .int .i64 ((2 * k : Nat) : Int) ∧ Hid (Oj 25 w wr v (nxK L k))) (fun _ d _ => (L.length + 2 - intOf d).toNat)
  case atStart => exact ⟨0, Nat.zero_le _, rfl, J0⟩
  case round =>
    clear J0
    obtain ⟨k, hk, rfl, J⟩ := hrel
    have hn := HN.out
    by_cases hlt : 2 * k < L.length
    · obtain ⟨g, off, rfl⟩ := HL.out.base (by omega)
      have h1 : ((2 * k : Nat) : Int) < (L.length : Int) := by omega
      have hm := mt_lt L.length (2 * k) hlt
      have l1 := hide (H3.out.at (2 * k) (by omega))
      have l2 := hide (H3.out.at _ hm)
      have HM := hide fun W => mate_any (2 * k) L.length (by omega) W
      have LD : Hid (∀ W, Below w.heap.size w W → Below w.heap.size w W ∧ (ldh (.pointer (some ⟨g, off + (2 * k) * 32, none⟩))).run Tryz.prog W = .ok (.agg (hc (ia L (2 * k)))) W ∧ (ldh (.pointer (some ⟨g, off + (mtM L.length (2 * k)) * 32, none⟩))).run Tryz.prog W = .ok (.agg (hc (ia L (mtM L.length (2 * k))))) W) := fun W h => ⟨h, EH.load l1.out ((HL.out.below h).range _ hlt), EH.load l2.out ((HL.out.below h).range _ hm)⟩
      have HP := hide fun W hW => pair_any _ _ l1.out l2.out W hW
      have hpl := pr_len (ia L (2 * k)) (ia L (mtM L.length (2 * k)))
      have SN := hide (nxK_snoc L k)
      rw [show nx L k = pr (ia L (2 * k)) (ia L (mtM L.length (2 * k))) from rfl] at SN
      have e2 : IntKind.i64.wrap (((2 * k : Nat) : Int) + 2) = ((2 * (k + 1) : Nat) : Int) := by rw [wrapI _ (by omega) (by omega)]; omega
      have h2 : (0 : Int) ≤ ((2 * k : Nat) : Int) := by omega
      have h3 : ((mtM L.length (2 * k) : Nat) : Int) < (L.length : Int) := by omega
      have h4 : (0 : Int) ≤ ((mtM L.length (2 * k) : Nat) : Int) := by omega
      have KK := hide (And.intro (show k + 1 ≤ (L.length + 1) / 2 by omega) (show ((L.length : Int) + 2 - ((2 * (k + 1) : Nat) : Int)).toNat < ((L.length : Int) + 2 - ((2 * k : Nat) : Int)).toNat by omega))
      have SZ := hide (show (nxK L k).length + 1 ≤ 4398046511104 by rw [nxK_len]; omega)
      generalize hia : ia L (2 * k) = A at *
      generalize hib : ia L (mtM L.length (2 * k)) = B at *
      generalize hpr : pr A B = P at *
      have PL := hide hpl
      have bs : ∀ W, (bsh (.agg (hc P))).run Tryz.prog W = .ok (.slice (some ⟨W.heap.size, 0, none⟩) 1 1) (W.alloc (.cells (hc P) 25)) := fun W => EH.bs1 W P hpl
      clear hia hib hpr hpl hk hn
      generalize hp : 2 * (k + 1) = p3 at *
      have HP3 := hide hp
      clear hp hm hlt
      generalize mtM L.length (2 * k) = q at *
      generalize 2 * k = p1 at *
      go_upto_region 5 with fail
      have ld1 := (LD.out _ J.out.bel.drew).2.1
      have ld2 := (LD.out _ J.out.bel.drew).2.2
      go_region_law ((first | (go_simp; go_at_call 139; refine (HM.out _).mono ?_; rintro e w1 ⟨rfl, hww⟩; subst w1) | (go_simp; go_at_call 138; refine (HP.out _ (KW.out _ J.out.bel.drew)).mono ?_; rintro e w1 ⟨rfl, be⟩; have J1 := hide ((J.out.next (Below.refl _ _).drew).next be); have J2 := hide (J1.out.next ((Below.refl _ _).alloc (Nat.le_refl _) (.cells (hc P) 25))); clear be) | (refine ET.step EH (by rfl) _ _ (by rfl) _ _ (by rfl) J2.out.own ⟨_, 0, none⟩ P PL.out (by rfl) (one_newH _ _) SZ.out ?_; intro v' w3 hown' hon3; have J3 := hide (J2.out.onto hon3 hown'))))
      all_goals
        go_wp2
        exact ⟨⟨k + 1, KK.out.1, by rw [HP3.out], by rw [SN.out]; exact J3⟩, by simpa [intOf] using KK.out.2⟩
    · have h1 : ¬ ((2 * k : Nat) : Int) < (L.length : Int) := by omega
      have hke : nxt L = nxK L k := by
        unfold nxt
        rw [show (L.length + 1) / 2 = k by omega]
      have HE := hide hke
      clear hke hlt hk hn
      generalize 2 * k = p1 at *
      go_wp2
      go_ret
      exact ⟨u3, rfl, by rw [HE.out]; exact J.out⟩
end
end Go.Proofs.YtofddbjnncgmlabGreatDoor
