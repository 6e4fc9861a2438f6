/- What the texts of a seat without sha stand on: arrays in blocks of their own, worlds beside each other. Bytes that are appended (a seat without sha). -/
import Derived.Test.YthnfpdmhjennlaaRows
import Derived.WalkKit
import Derived.WalkSpells
import Derived.WalkLawsBesides
import Derived.Deep.QuietTactic
import Derived.BigQuiet
import Derived.BigRegion
import Derived.Stop.BytesEq
import Derived.Laws.Tables
import Derived.Lib.LazyBuf
import Derived.Lib.AppendStr
import Derived.Deep.AppendSrc
import Derived.Deep.RegionWith
import Derived.Deep.RegionLaw
import Derived.Deep.RegionHeld3
import Derived.Deep.OwnRows
import Derived.Deep.WholeRow
import Derived.Deep.Slices
import Derived.Deep.CutRange
import Derived.Deep.DeepAppendRoom
import Derived.Lib.SmallJoins
namespace Go.Proofs.Ythnfpdmhjennlaa
open Go.RowKit
open Go.Deep

theorem wrapI (x : Int) (h0 : -9223372036854775808 ≤ x) (h1 : x < 9223372036854775808) : IntKind.i64.wrap x = x := by
  simp only [IntKind.wrap, IntKind.signed, IntKind.bits]
  simp
  omega
theorem cell_set_ne (w : World) (b i j : Nat) (v : Value) (h : i ≠ j) : (w.setCell ⟨b, i, none⟩ v).cell? ⟨b, j, none⟩ = w.cell? ⟨b, j, none⟩ :=
  World.cell?_setCell_other _ _ _ _ (by intro e; cases e; exact h rfl)
theorem ret_int {k : IntKind} {a b : Int} (h : a = b) : Ending.returned (.int k a) = .returned (.int k b) := by rw [h]
theorem hide {q : Prop} (h : q) : Hid q := h
/-- The byte k of a text. -/
def by8 (b : List UInt8) (k : Nat) : Nat := (b.getD k 0).toNat
theorem by8_lt (b : List UInt8) (k : Nat) : by8 b k < 256 := (b.getD k 0).toNat_lt
def cellsL (l : List UInt8) : List Value := l.map fun b => .int .u8 (b.toNat : Int)
theorem cellsL_app (a b : List UInt8) : cellsL (a ++ b) = cellsL a ++ cellsL b := by simp [cellsL]
theorem cellsL_len (a : List UInt8) : (cellsL a).length = a.length := by simp [cellsL]
/-- Bytes as cells. -/
def hc (l : List UInt8) : Array Value := (cellsL l).toArray
theorem hc_size (l : List UInt8) : (hc l).size = l.length := by simp [hc, cellsL]
theorem hc_one (l : List UInt8) : (hc l).all (·.oneCell') = true := by
  rw [Array.all_eq_true_iff_forall_mem]
  intro v hv
  simp only [hc, cellsL, List.mem_toArray, List.mem_map] at hv
  obtain ⟨b, _, rfl⟩ := hv
  rfl
theorem hc_at (h : List UInt8) (k : Nat) (hk : k < h.length) : (hc h)[k]? = some (.int .u8 (by8 h k : Int)) := by
  simp [hc, cellsL, by8, hk]
def zeros : List UInt8 := List.replicate 32 0
theorem zeros_len : zeros.length = 32 := by simp [zeros]
structure Arr (t : TypeId) (n : Nat) (z : Array Value) : Prop where
  und : (∃ m e, Try.prog.underlying t = some (.array m e)) ∨ ∃ fs, Try.prog.underlying t = some (.struct fs)
  info : (Try.prog.info? t).map (·.size) = some n
  alloc : ∀ w, (Instr.alloc t true (.tuple #[])).run Try.prog w = .ok (.pointer (some ⟨w.heap.size, 0, none⟩)) (w.alloc (.cells z t))
  build : ∀ w, (Instr.build t #[]).run Try.prog w = .ok (.agg z) w
  zsize : z.size = n
section
variable {t : TypeId} {n : Nat} {z : Array Value}
variable {w : World} {ops : Array Oper} {rest : List Oper} {o : Oper} {a : Act} {Q : Exit → Act → World → Prop}
theorem wpList_allocA (A : Arr t n z) (hgd : o.guard = none) (ho : o.op = .alloc t)
    (h : wpList Try.prog ops Q rest (a.put o.dst (.pointer (some ⟨w.heap.size, 0, none⟩))) (w.alloc (.cells z t))) : wpList Try.prog ops Q (o :: rest) a w := by
  refine wpList_plain hgd fun K hK => ?_
  unfold Oper.wp execOp
  simp only [ho, A.alloc, Sem.run_bind, Result.andThen_ok, Sem.run_pure]
  exact hK _ _ h
theorem wpList_buildA (A : Arr t n z) (hgd : o.guard = none) (ho : o.op = .build t #[])
    (h : wpList Try.prog ops Q rest (a.put o.dst (.agg z)) w) : wpList Try.prog ops Q (o :: rest) a w := by
  refine wpList_plain hgd fun K hK => ?_
  unfold Oper.wp execOp
  simp only [ho, List.map_toArray, List.map_nil, A.build, Sem.run_bind, Result.andThen_ok, Sem.run_pure]
  exact hK _ _ h
theorem run_boxA (w : World) (t : TypeId) (c : Array Value) : (Instr.box t (.agg c)).run Try.prog w = .ok (.pointer (some ⟨w.heap.size, 0, none⟩)) (w.alloc (.cells c t)) := rfl
theorem wpList_boxA (hgd : o.guard = none) (x : Operand) (ho : o.op = .box t x) (c : Array Value) (hx : a.eval x = .agg c)
    (h : wpList Try.prog ops Q rest (a.put o.dst (.pointer (some ⟨w.heap.size, 0, none⟩))) (w.alloc (.cells c t))) : wpList Try.prog ops Q (o :: rest) a w := by
  refine wpList_plain hgd fun K hK => ?_
  unfold Oper.wp execOp
  simp only [ho, hx, run_boxA, Sem.run_bind, Result.andThen_ok, Sem.run_pure]
  exact hK _ _ h
theorem wpList_loadA (A : Arr t n z) (hgd : o.guard = none) (x : Operand) (ho : o.op = .load t x) (g : Nat) (hx : a.eval x = .pointer (some ⟨g, 0, none⟩)) (c : Array Value) (hn : c.size = n) (t' : TypeId) (hg : w.heap[g]? = some (.cells c t' (0, 0)))
    (h : wpList Try.prog ops Q rest (a.put o.dst (.agg c)) w) : wpList Try.prog ops Q (o :: rest) a w := by
  rcases A.und with ⟨m, e, hd⟩ | ⟨fs, hd⟩
  · exact wpList_load_row hgd t x ho g hx t' c (0, 0) _ hg hd rfl (by rw [A.info, hn]) h
  · exact wpList_load_row hgd t x ho g hx t' c (0, 0) _ hg hd rfl (by rw [A.info, hn]) h
theorem wpList_storeA (A : Arr t n z) (hgd : o.guard = none) (x y : Operand) (ho : o.op = .store t x y) (g : Nat) (c : Array Value) (hn : c.size = n) (h1 : c.all (·.oneCell') = true) (hx : a.eval x = .pointer (some ⟨g, 0, none⟩)) (hy : a.eval y = .agg c)
    (c0 : Array Value) (hn0 : c0.size = n) (t' : TypeId) (hg : w.heap[g]? = some (.cells c0 t' (0, 0)))
    (h : wpList Try.prog ops Q rest (a.put o.dst undef) (w.setRow g c)) : wpList Try.prog ops Q (o :: rest) a w :=
  wpList_store_row hgd t x y ho g c hx hy t' c0 hg (by rw [A.info, hn]) (by rw [hn, hn0]) h1 h
theorem wpList_store_newA (A : Arr t n z) (hgd : o.guard = none) (x y : Operand) (ho : o.op = .store t x y) (g : Nat) (hgw : g = w.heap.size) (c : Array Value) (hn : c.size = n) (h1 : c.all (·.oneCell') = true) (hx : a.eval x = .pointer (some ⟨g, 0, none⟩)) (hy : a.eval y = .agg c)
    (h : wpList Try.prog ops Q rest (a.put o.dst undef) (w.alloc (.cells c t))) : wpList Try.prog ops Q (o :: rest) a (w.alloc (.cells z t)) := by
  subst hgw
  refine wpList_storeA A hgd x y ho w.heap.size c hn h1 hx hy z A.zsize t (heap_alloc_last w _) ?_
  rw [World.setRow_alloc_new]
  exact h
theorem resA (A : Arr t n z) {fn : Func} {p : Tmp} (hf : fn.results = #[.cell p t]) (tmps : Array Value) (w : World) (g : Nat) (t' : TypeId) (c : Array Value) (hn : c.size = n)
    (hp : tmps.getD p undef = .pointer (some ⟨g, 0, none⟩)) (hg : w.heap[g]? = some (.cells c t' (0, 0))) : (results fn tmps).run Try.prog w = .ok (.agg c) w := by
  rcases A.und with ⟨m, e, hd⟩ | ⟨fs, hd⟩
  · exact results_cell_row hf tmps w g t' c (0, 0) _ hp hg hd rfl (by rw [A.info, hn])
  · exact results_cell_row hf tmps w g t' c (0, 0) _ hp hg hd rfl (by rw [A.info, hn])
end
theorem below_setRow {B : Nat} {a w : World} (h : Below B a w) {g : Nat} (hg : B ≤ g) (cs : Array Value) : Below B a (w.setRow g cs) :=
  h.trans ⟨rfl, rfl, rfl, by simp, fun k hk => setRow_other w g k _ (by omega)⟩
theorem below_drewN {B : Nat} {a w : World} (h : Below B a w) (n : Nat) : Below B a (w.drewN n) := ⟨h.os, h.tape, h.output, h.size, h.block⟩
theorem lt_heap {w : World} {g : Nat} {A : Obj} (h : w.heap[g]? = some A) : g < w.heap.size := by
  rcases Nat.lt_or_ge g w.heap.size with h' | h'
  · exact h'
  · rw [Array.getElem?_eq_none h'] at h
    cases h
/-- A row of an array: its cells by their places. -/
theorem row_of {w : World} {g : Nat} {c : Array Value} {t : TypeId} {n : Nat} (hn : c.size = n) (hg : w.heap[g]? = some (.cells c t (0, 0))) {f : Nat → Value} (hf : ∀ i, i < n → c[i]? = some (f i)) : w.rowIs g t n f :=
  ⟨c, hg, hn, hf⟩
theorem of_row {w : World} {g : Nat} {c : Array Value} {t : TypeId} {n : Nat} (hn : c.size = n) {f : Nat → Value} (hr : w.rowIs g t n f) (hf : ∀ i, i < n → c[i]? = some (f i)) : w.heap[g]? = some (.cells c t (0, 0)) := by
  obtain ⟨c', hg, hn', hcs⟩ := hr
  rw [hg]
  have : c' = c := by
    apply Array.ext
    · rw [hn', hn]
    · intro i h1 h2
      have e := hcs i (by omega)
      rw [← hf i (by omega), Array.getElem?_eq_getElem h1, Array.getElem?_eq_getElem h2] at e
      exact Option.some.inj e
  rw [this]
theorem blk3 (w : World) (A B C : Obj) : (((w.alloc A).alloc B).alloc C).heap[w.heap.size]? = some A ∧ (((w.alloc A).alloc B).alloc C).heap[w.heap.size + 1]? = some B ∧ (((w.alloc A).alloc B).alloc C).heap[w.heap.size + 1 + 1]? = some C := by
  have e1 := heap_alloc_last w A
  have e2 := heap_alloc_last (w.alloc A) B
  have e3 := heap_alloc_last ((w.alloc A).alloc B) C
  have s1 : (w.alloc A).heap.size = w.heap.size + 1 := by simp
  have s2 : ((w.alloc A).alloc B).heap.size = w.heap.size + 1 + 1 := by simp
  rw [s1] at e2
  rw [s2] at e3
  exact ⟨(Below.heap_alloc _ C _ (by omega)).trans ((Below.heap_alloc _ B _ (by omega)).trans e1), (Below.heap_alloc _ C _ (by omega)).trans e2, e3⟩
theorem below3 (w : World) (A B C : Obj) : Below w.heap.size w (((w.alloc A).alloc B).alloc C) :=
  (((Below.refl _ _).alloc (Nat.le_refl _) _).alloc (by simp) _).alloc (by simp; omega) _
theorem size5 (w : World) : (sizeOf 5).run Try.prog w = .ok 1 w := by kernel_rfl
/-- w' is w but for block b and new blocks. -/
structure Rfr (b : Nat) (w w' : World) : Prop where
  os : w'.os = w.os
  tape : w'.tape = w.tape
  output : w'.output = w.output
  size : w.heap.size ≤ w'.heap.size
  block : ∀ k, k < w.heap.size → k ≠ b → w'.heap[k]? = w.heap[k]?
theorem Rfr.refl (b : Nat) (w : World) : Rfr b w w := ⟨rfl, rfl, rfl, Nat.le_refl _, fun _ _ _ => rfl⟩
theorem Rfr.trans {b : Nat} {w w1 w2 : World} (h : Rfr b w w1) (k : Rfr b w1 w2) : Rfr b w w2 :=
  ⟨k.os.trans h.os, k.tape.trans h.tape, k.output.trans h.output, Nat.le_trans h.size k.size, fun i hi hb => (k.block i (Nat.lt_of_lt_of_le hi h.size) hb).trans (h.block i hi hb)⟩
theorem Rfr.drew (b : Nat) (w : World) : Rfr b w w.drew := ⟨rfl, rfl, rfl, Nat.le_refl _, fun _ _ _ => rfl⟩
theorem Rfr.drewN (b : Nat) (w : World) (n : Nat) : Rfr b w (w.drewN n) := ⟨rfl, rfl, rfl, Nat.le_refl _, fun _ _ _ => rfl⟩
theorem Rfr.below {b : Nat} {w w' : World} (h : Below w.heap.size w w') : Rfr b w w' := ⟨h.os, h.tape, h.output, h.size, fun k hk _ => h.block k hk⟩
theorem Rfr.setCell (b : Nat) (w : World) (i : Nat) (v : Value) : Rfr b w (w.setCell ⟨b, i, none⟩ v) :=
  ⟨rfl, rfl, rfl, by simp [World.setCell], fun k _ hk => Below.heap_setCell _ _ _ _ hk⟩
theorem Rfr.setCells (b : Nat) : ∀ (vs : List Value) (o : Nat) (w : World), Rfr b w (w.setCells b o vs)
  | [], _, w => Rfr.refl b w
  | v :: r, o, w => (Rfr.setCell b w o v).trans (Rfr.setCells b r (o + 1) _)
theorem Rfr.to_below {b B : Nat} {w w' : World} (h : Rfr b w w') (hb : B ≤ b) (hw : B ≤ w.heap.size) : Below B w w' :=
  ⟨h.os, h.tape, h.output, h.size, fun k hk => h.block k (by omega) (by omega)⟩
theorem ext_list (x : ByteArray) (k : Nat) : (x.extract k x.size).data.toList = x.data.toList.drop k := by
  rw [ByteArray.data_extract, Array.toList_extract]
  simp [List.extract]
  rw [List.take_of_length_le]
  simp
def lenS : Value → Nat
  | .string s => s.size
  | _ => 0
theorem wrapu (x : Int) (h0 : 0 ≤ x) (h1 : x < 18446744073709551616) : IntKind.u64.wrap x = x := by
  simp only [IntKind.wrap, IntKind.signed, IntKind.bits]
  simp
  omega
/-- A hash, turned into a string. -/
theorem conv_row (w : World) (g : Nat) (l : List UInt8) (hl : l.length = 32) (t : TypeId) (hg : w.heap[g]? = some (.cells (hc l) t (0, 0))) :
    (convert 77 9 (.slice (some ⟨g, 0, none⟩) 32 32)).run Try.prog w = .ok (.string ⟨l.toArray⟩) w := by
  have := run_convert_bytes_back (P := Try.prog) w 77 9 5 ⟨g, 0, none⟩ 32 l Try.underlying77 Try.underlying5 Try.underlying9 (fun j hj => by
    have hadd : (⟨g, 0, none⟩ : Addr).add j = ⟨g, j, none⟩ := by unfold Addr.add; split <;> simp_all
    rw [hadd, cell_of_row w g j _ t (0, 0) hg]
    simp [hc, cellsL, hj])
  rwa [hl] at this
theorem sb_mid {w w1 : World} {A : Obj} {b : Nat} (b1 : Below (w.alloc A).heap.size (w.alloc A) w1) (hb : (w.alloc A).heap.size ≤ b) : Hid (w1.heap[w.heap.size]? = some A) ∧ Hid (Below w.heap.size w w1) ∧ Hid (w.heap.size < b) := by
  have hN : (w.alloc A).heap.size = w.heap.size + 1 := by simp
  rw [hN] at b1 hb
  exact ⟨(b1.block _ (by omega)).trans (heap_alloc_last _ _), ((Below.refl _ _).alloc (Nat.le_refl _) _).trans (b1.mono (by omega)), Nat.lt_of_succ_le hb⟩
theorem sb_next {w w1 w2 : World} {A : Obj} {b : Nat} (n1 : w1.heap[w.heap.size]? = some A) (B1 : Below w.heap.size w w1) (hb : w.heap.size < b) (r : Rfr b w1 w2) : Hid (w2.heap[w.heap.size]? = some A) ∧ Hid (Below w.heap.size w w2) :=
  ⟨(r.block _ (lt_heap n1) (by omega)).trans n1, B1.trans (r.to_below (by omega) B1.size)⟩
theorem sb_last {w w1 w2 : World} {A : Obj} (n1 : w1.heap[w.heap.size]? = some A) (B1 : Below w.heap.size w w1) (r : Below w1.heap.size w1 w2) : Hid (w2.heap[w.heap.size]? = some A) ∧ Hid (Below w.heap.size w w2) :=
  ⟨(r.block _ (lt_heap n1)).trans n1, B1.trans (r.mono B1.size)⟩
theorem wp_region_class_lit {I : Type} {F : I → World} {id : Nat} {Q : Exit → Act → World → Prop} {a : Act} {w : World} {l : List Oper} (hm : Try.prog.follows .mixedOrders = true) (hB : Region.lexB .any l.toArray = true) (i0 : I) (h0 : w.drew = F i0)
    (h : wpQuiet Try.prog l.toArray (fun w' => ∃ i, w' = F i) (fun a' => ∀ w', (∃ i, w' = F i) → Q .normal a' w') l a) : (Code.region id l.toArray true).wp Try.prog Q a w :=
  wp_region_quiet (C := fun w' => ∃ i, w' = F i) hm hB ⟨i0, h0⟩ (by simpa using h)
theorem class_of {I : Type} {F : I → World} {f : FuncId} {args : Array Value} {i : I} {v : Value} (hcl : ∀ i W', Below (F i).heap.size (F i) W' → ∃ j, W' = F j)
    (h : Calls Try.prog f args (F i) fun e w' => e = .returned v ∧ Below (F i).heap.size (F i) w') : Calls Try.prog f args (F i) fun e w'' => e = .returned v ∧ ∃ j, w'' = F j :=
  h.mono fun _ _ ⟨he, hb⟩ => ⟨he, hcl i _ hb⟩
theorem class_of_same {I : Type} {F : I → World} {f : FuncId} {args : Array Value} {i : I} {v : Value}
    (h : Calls Try.prog f args (F i) fun e w' => e = .returned v ∧ w' = F i) : Calls Try.prog f args (F i) fun e w'' => e = .returned v ∧ ∃ j, w'' = F j :=
  h.mono fun _ _ ⟨he, hb⟩ => ⟨he, i, hb⟩
/-- The load of a whole array. -/
theorem ld_row {t : TypeId} {n : Nat} {z : Array Value} (A : Arr t n z) {W : World} {g : Nat} {c : Array Value} {t' : TypeId} (hn : c.size = n) (h : W.heap[g]? = some (.cells c t' (0, 0))) : (Instr.loadAt t (.pointer (some ⟨g, 0, none⟩))).run Try.prog W = .ok (.agg c) W := by
  simp only [Instr.loadAt, Instr.sureAddr, Sem.run_bind, Sem.run_pure, Result.andThen]
  rcases A.und with ⟨m, e, hd⟩ | ⟨fs, hd⟩
  · exact run_loadVar_row W g t' t c (0, 0) _ h hd rfl (by rw [A.info, hn])
  · exact run_loadVar_row W g t' t c (0, 0) _ h hd rfl (by rw [A.info, hn])
/-- Arrays held against each other, as an operation of a quiet walk. -/
theorem quiet_eql {C : World → Prop} {a : Act} {o : Oper} {K : Act → Prop} (t : TypeId) (x y : Operand) (t2 : TypeId) (ho : o.op = .binOp .eql t x y t2) (c d : Array Value) (hx : a.eval x = .agg c) (hy : a.eval y = .agg d) (hg : Try.prog.eqGuardType Try.prog.depth t = false)
    (v : Bool) (hr : ∀ W, (Op.equalIn 10000 t (.agg c) (.agg d)).run Try.prog W = .ok v W) (hk : K (a.put o.dst (.bool v))) : o.quiet Try.prog a C K := by
  refine ⟨.bool v, fun W _ => ?_, hk⟩
  unfold Oper.quietAt execOp
  simp only [ho, hx, hy, Sem.run_bind, run_eqGuard_agg (P := Try.prog) W .eql t x y c d hg, run_eql_struct, hr W, Result.andThen_ok, Sem.run_pure]
  exact ⟨rfl, rfl⟩
theorem eqb (t : TypeId) (n : Nat) (ht : Try.prog.underlying t = some (.array n 5)) (l : List UInt8) (hl : l.length = n) (W : World) : (Op.equalIn 10000 t (.agg (hc l)) (.agg (hc l))).run Try.prog W = .ok true W := by
  have e := run_equalIn_bytes (P := Try.prog) W 9998 t 5 n ht Try.underlying5 size5 l l hl hl
  rw [show (l == l) = true from by simp] at e
  exact e
theorem below_next {w w1 w2 : World} (B : Below w.heap.size w w1) (b : Below w1.heap.size w1 w2) : Below w.heap.size w w2 := B.trans (b.mono B.size)
/-- Arrays held against each other, as an operation of a walk, guarded or not. -/
theorem wpList_eql {w : World} {ops : Array Oper} {rest : List Oper} {o : Oper} {a : Act} {Q : Exit → Act → World → Prop} (t : TypeId) (x y : Operand) (t2 : TypeId) (ho : o.op = .binOp .eql t x y t2) (c d : Array Value) (hx : a.eval x = .agg c) (hy : a.eval y = .agg d) (hw : Region.wanted o (yielded ops a.tmps) = true)
    (hg : Try.prog.eqGuardType Try.prog.depth t = false) (v : Bool) (hr : ∀ W, (Op.equalIn 10000 t (.agg c) (.agg d)).run Try.prog W = .ok v W)
    (h : wpList Try.prog ops Q rest (a.put o.dst (.bool v)) w) : wpList Try.prog ops Q (o :: rest) a w := by
  refine wpList_step fun K hK => ?_
  rw [if_pos hw]
  unfold Oper.wp execOp
  simp only [ho, hx, hy, Sem.run_bind, run_eqGuard_agg (P := Try.prog) w .eql t x y c d hg, run_eql_struct, hr w, Result.andThen_ok, Sem.run_pure]
  exact hK _ _ h
theorem wpList_neq {w : World} {ops : Array Oper} {rest : List Oper} {o : Oper} {a : Act} {Q : Exit → Act → World → Prop} (t : TypeId) (x y : Operand) (t2 : TypeId) (ho : o.op = .binOp .neq t x y t2) (c d : Array Value) (hx : a.eval x = .agg c) (hy : a.eval y = .agg d) (hw : Region.wanted o (yielded ops a.tmps) = true)
    (hg : Try.prog.eqGuardType Try.prog.depth t = false) (v : Bool) (hr : ∀ W, (Op.equalIn 10000 t (.agg c) (.agg d)).run Try.prog W = .ok v W)
    (h : wpList Try.prog ops Q rest (a.put o.dst (.bool !v)) w) : wpList Try.prog ops Q (o :: rest) a w := by
  refine wpList_step fun K hK => ?_
  rw [if_pos hw]
  unfold Oper.wp execOp
  simp only [ho, hx, hy, Sem.run_bind, run_eqGuard_agg (P := Try.prog) w .neq t x y c d hg, run_neq_struct, hr w, Result.andThen_ok, Sem.run_pure]
  exact hK _ _ h
end Go.Proofs.Ythnfpdmhjennlaa
namespace Go.Proofs.Ythnfpdmhjennlaa
open Go.RowKit
open Go.Deep
/-! ### Memory that is appended to -/
/-- w' is w but for v's own row and new blocks; v' lies in v's row or in a new block. -/
structure Onto (w w' : World) (v v' : Value) : Prop where
  grown : w.grownBy w' v.ownBlock
  lies : v'.ownBlock = v.ownBlock ∨ ∃ g, v'.ownBlock = some g ∧ w.heap.size ≤ g
theorem Onto.refl (w : World) (v : Value) : Onto w w v v := ⟨⟨rfl, rfl, rfl, Nat.le_refl _, fun _ _ _ => rfl⟩, .inl rfl⟩
theorem Onto.trans {w w1 w2 : World} {v v1 v2 : Value} (h : Onto w w1 v v1) (k : Onto w1 w2 v1 v2) : Onto w w2 v v2 := by
  obtain ⟨g, l⟩ := h
  obtain ⟨g', l'⟩ := k
  have hs := g.size
  refine ⟨⟨g'.os.trans g.os, g'.tape.trans g.tape, g'.output.trans g.output, Nat.le_trans hs g'.size, fun i hi hne => ?_⟩, ?_⟩
  · rw [g'.block i (by omega) ?_, g.block i hi hne]
    rcases l with l | ⟨b, l, hb⟩
    · rw [l]; exact hne
    · rw [l]; intro e; cases e; omega
  · rcases l' with l' | ⟨b, l', hb⟩
    · rw [l']; exact l
    · exact .inr ⟨b, l', by omega⟩
theorem Onto.alloc {w w' : World} {v v' : Value} (h : Onto w w' v v') (o : Obj) : Onto w (w'.alloc o) v v' := by
  obtain ⟨g, l⟩ := h
  refine ⟨⟨g.os, g.tape, g.output, by have := g.size; simp; omega, fun i hi hne => ?_⟩, l⟩
  rw [Below.heap_alloc _ _ _ (by have := g.size; omega)]
  exact g.block i hi hne
theorem Onto.drew {w w' : World} {v v' : Value} (h : Onto w w' v v') : Onto w w'.drew v v' := by
  obtain ⟨g, l⟩ := h
  exact ⟨⟨g.os, g.tape, g.output, g.size, g.block⟩, l⟩
theorem Onto.below {w w' : World} {v v' : Value} (h : Onto w w' v v') {B : Nat} (hB : B ≤ w.heap.size) (hv : ∀ k, v.ownBlock = some k → B ≤ k) : Below B w w' :=
  (Below.refl B w).grown h.grown hB hv
theorem Onto.far {w w' : World} {v v' : Value} (h : Onto w w' v v') {B : Nat} (hB : B ≤ w.heap.size) (hv : ∀ k, v.ownBlock = some k → B ≤ k) : ∀ k, v'.ownBlock = some k → B ≤ k := by
  intro k hk
  rcases h.lies with l | ⟨b, l, hb⟩
  · rw [l] at hk; exact hv k hk
  · rw [l] at hk; cases hk; omega
/-- v is a slice of bytes of the program's own making that holds l. -/
def Own (w : World) (v : Value) (l : List UInt8) : Prop := w.ownsRow 0 5 1 v l.length (cellsL l)
theorem Own.nil (w : World) : Own w (.slice none 0 0) [] := World.ownsRow_nil _ _ _ _

theorem Own.alloc {w : World} {v : Value} {l : List UInt8} (h : Own w v l) (o : Obj) : Own (w.alloc o) v l := World.ownsRow.alloc h o
theorem info5 : (Try.prog.info? 5).map (fun i => (i.zero, i.size, i.bytes)) = some (some (.int .u8 0), 1, 1) := by kernel_rfl

theorem run_app {w : World} {ty : TypeId} {v : Value} {l : List UInt8} (hown : Own w v l) (ad : Addr) (m c : Nat) (news : List UInt8) (hm : m = news.length) (hnews : ∀ j u, (cellsL news)[j]? = some u → w.cell? (ad.add j) = some u)
    (hsm : l.length + m ≤ 140737488355328) :
    ∃ v' w', (Builtin.append_ #[77, 77] ty #[v, .slice (some ad) m c]).run Try.prog w = .ok v' w' ∧ Own w' v' (l ++ news) ∧ Onto w w' v v' := by
  obtain ⟨i0, hi, hz0, hz1, hz2⟩ := info_parts info5
  obtain ⟨v', w', hr, h2, h3, _, h5⟩ := run_append_own_at (P := Try.prog) w 0 77 ty 5 i0 (.int .u8 0) 1 1 Try.underlying77 hi hz0 hz1 hz2 rfl (by decide) v l.length (cellsL l) hown ad m c (cellsL news) (by simp [cellsL_len, hm]) hnews
    (fun u hu => by simp only [cellsL, List.mem_map] at hu; obtain ⟨b, _, rfl⟩ := hu; rfl) (by unfold maxLen; omega) (by omega) (Nat.zero_le _)
  refine ⟨v', w', hr, ?_, ⟨h3, ?_⟩⟩
  · unfold Own
    rw [List.length_append, cellsL_app, ← hm]
    exact h2
  · rcases h5 with h5 | h5
    · exact .inl h5
    · exact .inr ⟨_, h5, Nat.le_refl _⟩
theorem wpList_app {w : World} {ops : Array Oper} {rest : List Oper} {o : Oper} {a : Act} {Q : Exit → Act → World → Prop} (hgd : o.guard = none) (s x : Operand)
    (ho : o.op = .call { callee := .builtin .append, args := #[s, x], argTypes := #[77, 77] })
    (v : Value) (l : List UInt8) (hs : a.eval s = v) (hown : Own w v l)
    (ad : Addr) (m c : Nat) (news : List UInt8) (hx : a.eval x = .slice (some ad) m c) (hm : m = news.length) (hnews : ∀ j u, (cellsL news)[j]? = some u → w.cell? (ad.add j) = some u) (hsm : l.length + m ≤ 140737488355328)
    (h : ∀ v' w', Own w' v' (l ++ news) → Onto w w' v v' → wpList Try.prog ops Q rest (a.put o.dst v') w') :
    wpList Try.prog ops Q (o :: rest) a w := by
  refine wpList_plain hgd fun K hK => ?_
  obtain ⟨v', w', hr, h2, h3⟩ := run_app (ty := o.type) hown ad m c news hm hnews hsm
  unfold Oper.wp execOp
  simp only [ho, resolve, invoke, builtin, Sem.run_bind, Sem.run_pure, Result.andThen_ok, List.map_toArray, List.map_cons, List.map_nil, hs, hx, hr]
  exact hK _ _ (h v' w' h2 h3)
/-- The one cell of a block that was just laid. -/
theorem one_new (w : World) (x : Int) (b : UInt8) (hx : x = b.toNat) : ∀ j u, (cellsL [b])[j]? = some u → (w.alloc (.cells #[.int .u8 x] 5)).cell? ((⟨w.heap.size, 0, none⟩ : Addr).add j) = some u := by
  subst hx
  exact cell_one_new _ _ _

/-- A slice of bytes of the program's own, turned into a string. -/
theorem conv_own {w : World} {v : Value} {l : List UInt8} (h : Own w v l) : (convert 77 9 v).run Try.prog w = .ok (.string ⟨l.toArray⟩) w := by
  rcases h.2 with ⟨rfl, h0⟩ | ⟨g, cap, cur, rfl, hb, hg, hn, hm, hsz, ht⟩
  · have : l = [] := List.eq_nil_of_length_eq_zero h0
    subst this
    exact run_convert_bytes_nil (P := Try.prog) w 77 5 Try.underlying77 Try.underlying5 0 0 9 Try.underlying9
  · refine run_convert_bytes_back (P := Try.prog) w 77 9 5 ⟨g, 0, none⟩ cap l Try.underlying77 Try.underlying5 Try.underlying9 ?_
    intro j hj
    refine World.ownsRow.cells h rfl j _ ?_
    simp [cellsL, hj]


theorem row_own {w : World} {g C : Nat} {f : Nat → Value} {l : List UInt8} (h : w.rowIs g 5 C f) (hl : l.length ≤ C) (hC : C ≤ maxLen) (hf : ∀ i (hi : i < l.length), f i = .int .u8 (l[i].toNat : Int)) : Own w (.slice (some ⟨g, 0, none⟩) l.length C) l := by
  obtain ⟨c, hb, hn, hc⟩ := h
  refine ⟨by simp [cellsL_len], .inr ⟨g, C, c, rfl, Nat.zero_le _, hb, hl, hC, by omega, ?_⟩⟩
  apply List.ext_getElem?
  intro i
  rw [Nat.mul_one, List.getElem?_take]
  by_cases hi : i < l.length
  · rw [if_pos hi, Array.getElem?_toList, hc i (by omega), hf i hi]
    simp [cellsL, hi]
  · rw [if_neg hi, List.getElem?_eq_none (by rw [cellsL_len]; omega)]
theorem wpList_make_at {w : World} {ops : Array Oper} {rest : List Oper} {o : Oper} {a : Act} {Q : Exit → Act → World → Prop} (hgd : o.guard = none) (l c : Operand) (hop : o.op = Op.makeSlice 77 l c)
    (kl kc : IntKind) (L C : Int) (n m : Nat) (hl : a.eval l = .int kl L) (hc : a.eval c = .int kc C) (hL : L = n) (hC : C = m) (hnm : n ≤ m) (hm : m ≤ 281474976710656)
    (h : ∀ w', w'.rowIs w.heap.size 5 m (fun _ => .int .u8 0) → Below w.heap.size w w' → wpList Try.prog ops Q rest (a.put o.dst (.slice (some ⟨w.heap.size, 0, none⟩) n m)) w') : wpList Try.prog ops Q (o :: rest) a w := by
  subst hL hC
  refine wpList_plain hgd fun K hK => ?_
  obtain ⟨i0, hi, hz0, hz1, hz2⟩ := info_parts info5
  have hr := run_make (P := Try.prog) w 77 5 i0 (.int .u8 0) Try.underlying77 hi hz0 kl kc n m (by omega) (by omega) (by rw [hz2]; omega) (by omega)
  rw [Int.toNat_natCast, Int.toNat_natCast, hz1, Nat.mul_one] at hr
  unfold Oper.wp
  simp only [execOp, hop, hl, hc, hr, Sem.run_bind, Result.andThen_ok, Sem.run_pure]
  exact hK _ _ (h _ (World.rowIs_made w _ m 5) ((Below.refl _ _).alloc (Nat.le_refl _) _))
theorem Own.form {w : World} {v : Value} {l : List UInt8} (h : Own w v l) : ∃ ao n c, v = .slice ao n c ∧ Hid (n = l.length) := by
  rcases h.2 with ⟨rfl, h0⟩ | ⟨g, cap, cur, rfl, _⟩
  · exact ⟨none, 0, 0, rfl, h0.symm⟩
  · exact ⟨_, _, _, rfl, rfl⟩
/-- How long a slice is. -/
def lenV : Value → Nat
  | .slice _ n _ => n
  | _ => 0
theorem Own.len {w : World} {v : Value} {l : List UInt8} (h : Own w v l) : lenV v = l.length := by
  obtain ⟨ao, n, c, rfl, hn⟩ := Own.form h
  exact hn.out
end Go.Proofs.Ythnfpdmhjennlaa
