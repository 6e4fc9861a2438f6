/- Transactions: laws of lists, of drawn regions, of writers, that they stand on. Transactions in memory; how many bytes they have. The law's given: a transaction as the document has it: its contract. -/
import Derived.Test.YtcoojkpimbddlaaGreatDoorX06
import Derived.BigQuiet
import Derived.Deep.RegionHeld3
namespace Go.Proofs.YtcoojkpimbddlaaGreatDoor
open Go.RowKit
open Go.Deep
set_option linter.unusedVariables false
theorem at_list {P : Program} {ops : Array Oper} {Q : Exit → Act → World → Prop} {l : List Oper} {a : Act} {w : World} (h : wpList P ops Q l a w) : wpList P ops Q l a w := h
theorem wpList_loadS {t : TypeId} {n : Nat} {z : Array Value} {w : World} {ops : Array Oper} {rest : List Oper} {o : Oper} {a : Act} {Q : Exit → Act → World → Prop} (A : Arr t n z) (x : Operand) (ho : o.op = .load t x) (g : Nat) (hx : a.eval x = .pointer (some ⟨g, 0, none⟩)) (c : Array Value) (hn : c.size = n) (t' : TypeId) (hg : w.heap[g]? = some (.cells c t' (0, 0))) (hw : Region.wanted o (yielded ops a.tmps) = true)
    (h : wpList Tryz.prog ops Q rest (a.put o.dst (.agg c)) w) : wpList Tryz.prog ops Q (o :: rest) a w := by
  refine wpList_step fun K hK => ?_
  rw [if_pos hw]
  unfold Oper.wp execOp
  simp only [ho, hx, Sem.run_bind, ld_row A hn hg, Result.andThen_ok, Sem.run_pure]
  exact hK _ _ h
theorem resA2K {t : TypeId} {n : Nat} {z : Array Value} (A : Arr t n z) {fn : Func} {p u : Tmp} (hf : fn.results = #[.cell p t, .tmp u]) (tmps : Array Value) (w : World) (g : Nat) (t' : TypeId) (c : Array Value) (hn : c.size = n)
    (hp : tmps.getD p undef = .pointer (some ⟨g, 0, none⟩)) (hg : w.heap[g]? = some (.cells c t' (0, 0))) (x : Value) (hx : tmps.getD u undef = x) : (results fn tmps).run Tryz.prog w = .ok (.tuple #[.agg c, x]) w := by
  subst hx
  have hp' : tmps[p]?.getD undef = .pointer (some ⟨g, 0, none⟩) := by simpa using hp
  rcases A.und with ⟨m, e, hd⟩ | ⟨fs, hd⟩ <;> simp [results, hf, hp', asAddr, run_loadVar_row w g t' t c (0, 0) _ hg hd rfl (by rw [A.info, hn])]
theorem txt_sz (a : List UInt8) : (txt a).size = a.length := by show a.toArray.size = _; simp
section
variable {α : Type} {w : World} {ops : Array Oper} {o : Oper} {a : Act} {K : Act → World → Prop} {Q : Exit → Act → World → Prop} {E0 : Prop}
theorem Ek.stepBs1 (E : Ek α) (hgd : o.guard = none) (x : Operand) (ho : o.op = .buildSlice E.t 1 #[(0, x)]) (h : α) (hx : a.eval x = .agg (E.enc h).toArray)
    (hk : K (a.put o.dst (.slice (some ⟨w.heap.size, 0, none⟩) 1 1)) (w.alloc (.cells (E.enc h).toArray E.e))) :
    if Region.wanted o (yielded ops a.tmps) = true then Oper.wp Tryz.prog o a w K Q else E0 := by
  have hw : Region.wanted o (yielded ops a.tmps) = true := by simp [Region.wanted, hgd]
  rw [if_pos hw]
  unfold Oper.wp execOp
  simp only [ho, List.map_toArray, List.map_cons, List.map_nil, hx, E.bs1 w h, Sem.run_bind, Result.andThen_ok, Sem.run_pure]
  exact hk
theorem Ek.stepApp (E : Ek α) (hgd : o.guard = none) (s x : Operand)
    (ho : o.op = .call { callee := .builtin .append, args := #[s, x], argTypes := #[E.t, E.t] })
    (v : Value) (L : List α) (hs : a.eval s = v) (hown : OX E w v L)
    (ad : Addr) (h : α) (hx : a.eval x = .slice (some ad) 1 1) (hnews : ∀ j u, (flatE E [h])[j]? = some u → w.cell? (ad.add j) = some u) (hsm : (L.length + 1) * E.b ≤ 140737488355328) (h63 : L.length + 1 ≤ maxLen)
    (h : ∀ v' w', OX E w' v' (L ++ [h]) → Onto w w' v v' → K (a.put o.dst v') w') :
    if Region.wanted o (yielded ops a.tmps) = true then Oper.wp Tryz.prog o a w K Q else E0 := by
  have hw : Region.wanted o (yielded ops a.tmps) = true := by simp [Region.wanted, hgd]
  rw [if_pos hw]
  obtain ⟨v', w', hr, h2, h3⟩ := E.app (ty := o.type) hown ad 1 1 [_] rfl hnews hsm h63
  unfold Oper.wp execOp
  simp only [ho, resolve, invoke, builtin, Sem.run_bind, Sem.run_pure, Result.andThen_ok, List.map_toArray, List.map_cons, List.map_nil, hs, hx, hr]
  exact h v' w' h2 h3
end
section
variable {α : Type} {E : Ek α} {w : World}
theorem LX.news {ad : Addr} {n c : Nat} {L : List α} (h : LX E w (.slice (some ad) n c) L) : ∀ j u, (flatE E L)[j]? = some u → w.cell? (ad.add j) = some u := by
  intro j u hu
  have hj := (List.getElem?_eq_some_iff.1 hu).1
  rw [flatE_len] at hj
  have hk := E.kpos
  have hi : j / E.k < L.length := Nat.div_lt_of_lt_mul (by rw [Nat.mul_comm]; exact hj)
  have hr : j % E.k < E.k := Nat.mod_lt _ hk
  have e1 := flatE_at E L (j / E.k) hi (j % E.k) hr
  rw [show j / E.k * E.k + j % E.k = j by rw [Nat.mul_comm]; exact Nat.div_add_mod j E.k] at e1
  obtain ⟨g, off, e⟩ := h.base (Nat.lt_of_le_of_lt (Nat.zero_le _) hi)
  cases e
  have := h.range (j / E.k) hi (j % E.k) u (by rw [← e1]; exact hu)
  rw [show off + j / E.k * E.k + j % E.k = off + j by rw [Nat.add_assoc, Nat.mul_comm, Nat.div_add_mod]] at this
  have hadd : (⟨g, off, none⟩ : Addr).add j = ⟨g, off + j, none⟩ := by unfold Addr.add; split <;> simp_all
  rw [hadd]
  exact this
end
section
variable {ops : Array Oper} {S : World → Prop} {o : Oper} {a : Act}
theorem yl_load (hw : Region.wanted o (yielded ops a.tmps) = true) {t : TypeId} (x : Operand) (ho : o.op = .load t x) (v : Value) (c : Array Value) (hx : a.eval x = v) (hr : ∀ W, S W → (Instr.loadAt t v).run Tryz.prog W = .ok (.agg c) W) : YieldsIf Tryz.prog ops S o (.agg c) a :=
  .inl ⟨hw, fun W hW => by
    unfold execOp
    simp only [ho, hx, hr W hW, Sem.run_bind, Result.andThen_ok, Sem.run_pure]⟩
theorem yl_build (hw : Region.wanted o (yielded ops a.tmps) = true) {t : TypeId} (x : Array (Nat × Operand)) (ho : o.op = .build t x) (y : Array (Nat × Value)) (c : Array Value) (hx : x.map (fun p => (p.1, a.eval p.2)) = y) (hr : ∀ W, (Instr.build t y).run Tryz.prog W = .ok (.agg c) W) : YieldsIf Tryz.prog ops S o (.agg c) a :=
  .inl ⟨hw, fun W hW => by
    unfold execOp
    simp only [ho, hx, hr W, Sem.run_bind, Result.andThen_ok, Sem.run_pure]⟩
theorem yl_move (hw : Region.wanted o (yielded ops a.tmps) = true) (x : Operand) (ho : o.op = .move x) (v : Value) (hx : a.eval x = v) : YieldsIf Tryz.prog ops S o v a :=
  .inl ⟨hw, fun W _ => by
    unfold execOp
    simp only [ho, hx, Sem.run_pure]⟩
end
section
variable {w : World} {ops : Array Oper} {o : Oper} {a : Act} {K : Act → World → Prop} {Q : Exit → Act → World → Prop} {E0 : Prop} {t : TypeId} {n : Nat} {z : Array Value}
theorem stepAllocA (A : Arr t n z) (hgd : o.guard = none) (ho : o.op = .alloc t) (h : K (a.put o.dst (.pointer (some ⟨w.heap.size, 0, none⟩))) (w.alloc (.cells z t))) : if Region.wanted o (yielded ops a.tmps) = true then Oper.wp Tryz.prog o a w K Q else E0 := by
  have hw : Region.wanted o (yielded ops a.tmps) = true := by simp [Region.wanted, hgd]
  rw [if_pos hw]
  unfold Oper.wp execOp
  simp only [ho, A.alloc, Sem.run_bind, Result.andThen_ok, Sem.run_pure]
  exact h
theorem stepStoreA (A : Arr t n z) (hgd : o.guard = none) (x y : Operand) (ho : o.op = .store t x y) (g : Nat) (c : Array Value) (hn : c.size = n) (h1 : c.all (·.oneCell') = true) (hx : a.eval x = .pointer (some ⟨g, 0, none⟩)) (hy : a.eval y = .agg c)
    (c0 : Array Value) (hn0 : c0.size = n) (t' : TypeId) (hg : w.heap[g]? = some (.cells c0 t' (0, 0))) (h : K (a.put o.dst undef) (w.setRow g c)) : if Region.wanted o (yielded ops a.tmps) = true then Oper.wp Tryz.prog o a w K Q else E0 := by
  have hw : Region.wanted o (yielded ops a.tmps) = true := by simp [Region.wanted, hgd]
  rw [if_pos hw]
  exact wp_store_row t x y ho g c hx hy t' c0 hg (by rw [A.info, hn]) (by rw [hn, hn0]) h1 h
end
section
variable {α : Type} {w : World} {ops : Array Oper} {rest : List Oper} {o : Oper} {a : Act} {Q : Exit → Act → World → Prop}
theorem Ek.wpApp (E : Ek α) (hgd : o.guard = none) (x y : Operand)
    (ho : o.op = .call { callee := .builtin .append, args := #[x, y], argTypes := #[E.t, E.t] })
    (v : Value) (L : List α) (hx : a.eval x = v) (hown : OX E w v L)
    (ad : Addr) (n c : Nat) (N : List α) (hn : n = N.length) (hy : a.eval y = .slice (some ad) n c) (hnews : ∀ j u, (flatE E N)[j]? = some u → w.cell? (ad.add j) = some u) (hsm : (L.length + n) * E.b ≤ 140737488355328) (h63 : L.length + n ≤ maxLen)
    (h : ∀ v' w', OX E w' v' (L ++ N) → Onto w w' v v' → wpList Tryz.prog ops Q rest (a.put o.dst v') w') :
    wpList Tryz.prog ops Q (o :: rest) a w := by
  refine wpList_plain hgd fun K hK => ?_
  obtain ⟨v', w', hr, h2, h3⟩ := E.app (ty := o.type) hown ad n c N hn hnews hsm h63
  unfold Oper.wp execOp
  simp only [ho, resolve, invoke, builtin, Sem.run_bind, Sem.run_pure, Result.andThen_ok, List.map_toArray, List.map_cons, List.map_nil, hx, hy, hr]
  exact hK _ _ (h v' w' h2 h3)
theorem Ek.wpBs1 (E : Ek α) (hgd : o.guard = none) (x : Operand) (ho : o.op = .buildSlice E.t 1 #[(0, x)]) (h : α) (hx : a.eval x = .agg (E.enc h).toArray)
    (hk : wpList Tryz.prog ops Q rest (a.put o.dst (.slice (some ⟨w.heap.size, 0, none⟩) 1 1)) (w.alloc (.cells (E.enc h).toArray E.e))) : wpList Tryz.prog ops Q (o :: rest) a w := by
  refine wpList_plain hgd fun K hK => ?_
  unfold Oper.wp execOp
  simp only [ho, List.map_toArray, List.map_cons, List.map_nil, hx, E.bs1 w h, Sem.run_bind, Result.andThen_ok, Sem.run_pure]
  exact hK _ _ hk
theorem wpLoadX (E : Ek α) {kd : TypeDesc} (hu : Tryz.prog.underlying E.e = some kd) (hk : kd.isRow = true) (x : Operand) (ho : o.op = .load E.e x) (g off : Nat) (hx : a.eval x = .pointer (some ⟨g, off, none⟩)) (y : α) (hr : w.rangeAt g off (E.enc y)) (hw : Region.wanted o (yielded ops a.tmps) = true)
    (h : wpList Tryz.prog ops Q rest (a.put o.dst (.agg (E.enc y).toArray)) w) : wpList Tryz.prog ops Q (o :: rest) a w := by
  refine wpList_step fun K hK => ?_
  rw [if_pos hw]
  unfold Oper.wp execOp
  simp only [ho, hx, E.load y hu hk hr, Sem.run_bind, Result.andThen_ok, Sem.run_pure]
  exact hK _ _ h
end
structure Wb (B w : World) (b : Nat) (l : List UInt8) : Prop where
  st : Wst w (.pointer (some ⟨b, 0, none⟩)) l
  bel : Below B.heap.size B w
  far : B.heap.size ≤ b
  row : ∀ k, rowOf w (.pointer (some ⟨b, 0, none⟩)) = some k → B.heap.size ≤ k
theorem Wb.new (w : World) : Wb w (w.alloc (.cells #[.slice none 0 0] 323)) w.heap.size [] := by
  refine ⟨Wst.new w, (Below.refl _ _).alloc (Nat.le_refl _) _, Nat.le_refl _, fun k hk => ?_⟩
  have hc : (w.alloc (.cells #[.slice none 0 0] 323)).cell? ⟨w.heap.size, 0, none⟩ = some (.slice none 0 0) := by
    rw [cell_of_row _ _ 0 _ _ _ (heap_alloc_new w _)]; rfl
  simp [rowOf, hc, Value.ownBlock] at hk
theorem Wb.step {B w w' : World} {b : Nat} {l l' : List UInt8} (h : Wb B w b l) (s : Wst w' (.pointer (some ⟨b, 0, none⟩)) l') (f : Wfr w w' (.pointer (some ⟨b, 0, none⟩))) : Wb B w' b l' := by
  have hs := h.bel.size
  refine ⟨s, h.bel.trans ⟨f.os, f.tape, f.output, f.size, fun k hk => f.block k (by omega) ?_ ?_⟩, h.far, fun k hk => ?_⟩
  · have := h.far
    simp [blkOf]
    omega
  · intro e
    have := h.row k e
    omega
  · rcases f.lies with e | ⟨g, e, hg⟩
    · exact h.row k (by rw [← e]; exact hk)
    · rw [e] at hk
      cases hk
      omega
theorem Wb.next {B w w' : World} {b : Nat} {l : List UInt8} (h : Wb B w b l) (k : Below w.heap.size w w') : Wb B w' b l := h.step (h.st.below k) (Wfr.of_below h.st k)
abbrev pb (b : Nat) : Value := .pointer (some ⟨b, 0, none⟩)
theorem Wst.row_lt {w : World} {b k : Nat} {l : List UInt8} (h : Wst w (pb b) l) (hk : rowOf w (pb b) = some k) : k < w.heap.size := by
  rcases h with h | ⟨b', v, hp, hc, hf, ho, hne⟩
  · cases h
  · cases hp
    have e : v.ownBlock = some k := by
      have : rowOf w (pb b) = v.ownBlock := by simp [rowOf, hc]
      rw [← this]
      exact hk
    rcases ho.2 with ⟨rfl, h0⟩ | ⟨g', cap, cur, rfl, h4, hg, h5⟩
    · cases e
    · cases e
      exact lt_heap hg
theorem Wst.lt {w : World} {b : Nat} {l : List UInt8} (h : Wst w (pb b) l) : b < w.heap.size := by
  rcases h with h | ⟨b', v, hp, hc, hf, ho, hne⟩
  · cases h
  · cases hp
    exact block_lt_of_cell hc
structure Wx (B A w : World) (b : Nat) (l : List UInt8) : Prop where
  wb : Wb B w b l
  fr : Wfr A w (pb b)
theorem Wx.start {B A : World} {b : Nat} {l : List UInt8} (h : Wb B A b l) : Wx B A A b l := ⟨h, Wfr.refl _ _⟩
theorem Wx.step {B A w w' : World} {b : Nat} {l l' : List UInt8} (h : Wx B A w b l) (s : Wb B w' b l') (f : Wfr w w' (pb b)) : Wx B A w' b l' := ⟨s, h.fr.trans f⟩
theorem Wx.next {B A w w' : World} {b : Nat} {l : List UInt8} (h : Wx B A w b l) (k : Below w.heap.size w w') : Wx B A w' b l := ⟨h.wb.next k, h.fr.trans (Wfr.of_below h.wb.st k)⟩
theorem Wx.kept {B A0 A w : World} {b g : Nat} {l l0 : List UInt8} (h : Wx B A w b l) (h0 : Wb B A0 b l0) (k : Below A0.heap.size A0 A) (h1 : A0.heap.size ≤ g) (h2 : g < A.heap.size) : w.heap[g]? = A.heap[g]? := by
  have hb := h0.st.lt
  refine h.fr.block g h2 (by simp [blkOf]; omega) (fun e => ?_)
  have h3 := Wfr.of_below h0.st k
  have e2 : rowOf A (pb b) = rowOf A0 (pb b) := by
    have : A.cell? ⟨b, 0, none⟩ = A0.cell? ⟨b, 0, none⟩ := k.cell (p := ⟨b, 0, none⟩) hb
    simp [rowOf, this]
  rw [e2] at e
  have := h0.st.row_lt e
  omega
theorem row_setCells (R : List Value) (g : Nat) (t : TypeId) : ∀ (Y X A : List Value) (w : World), w.heap[g]? = some (.cells (A ++ (X ++ R)).toArray t (0, 0)) → X.length = Y.length → (w.setCells g A.length Y).heap[g]? = some (.cells (A ++ (Y ++ R)).toArray t (0, 0))
  | [], X, A, w, h, hl => by
    have : X = [] := List.length_eq_zero_iff.1 hl
    subst this
    exact h
  | v :: r, [], A, w, h, hl => by simp at hl
  | v :: r, x :: X, A, w, h, hl => by
    have h1 := heap_setCell_same w g A.length _ _ v h
    have e : (A ++ (x :: X ++ R)).toArray.setIfInBounds A.length v = ((A ++ [v]) ++ (X ++ R)).toArray := by
      rw [List.setIfInBounds_toArray]
      simp
    rw [e] at h1
    have := row_setCells R g t r X (A ++ [v]) _ h1 (by simpa using hl)
    rw [List.length_append] at this
    simp only [List.append_assoc] at this ⊢
    exact this
def zTi : Ti := ⟨zeros, 0, ⟨#[]⟩, 0, zeros_len⟩
def zTu : Tu := ⟨0, ⟨#[]⟩⟩
theorem AI : Arr 162 35 zTi.cells.toArray := ⟨.inr ⟨_, Tryz.underlying162⟩, by kernel_rfl, fun w => by kernel_rfl, fun w => by kernel_rfl, by rw [List.size_toArray, Ti.len]⟩
theorem AO : Arr 156 2 zTu.cells.toArray := ⟨.inr ⟨_, Tryz.underlying156⟩, by kernel_rfl, fun w => by kernel_rfl, fun w => by kernel_rfl, rfl⟩
def Tm.cells (m : Tm) (ai : Option Addr) (ci : Nat) (ao : Option Addr) (co : Nat) : Array Value := #[.int .u32 (m.ver.toNat : Int), .slice ai m.ins.length ci, .slice ao m.outs.length co, .int .u32 (m.time.toNat : Int)]
def zT : Tm := ⟨0, [], [], 0⟩
theorem AT : Arr 152 4 (zT.cells none 0 none 0) := ⟨.inr ⟨_, Tryz.underlying152⟩, by kernel_rfl, fun w => by kernel_rfl, fun w => by kernel_rfl, rfl⟩
theorem Tm.one (m : Tm) (ai : Option Addr) (ci : Nat) (ao : Option Addr) (co : Nat) : (m.cells ai ci ao co).all (·.oneCell') = true := by simp [Tm.cells, Value.oneCell']
theorem Ti.all (x : Ti) : x.cells.toArray.all (·.oneCell') = true := by
  rw [Array.all_eq_true_iff_forall_mem]
  intro v hv
  exact x.one v (by simpa using hv)
theorem Tu.all (x : Tu) : x.cells.toArray.all (·.oneCell') = true := by simp [Tu.cells, Value.oneCell']
theorem Ti.size (x : Ti) : x.cells.toArray.size = 35 := by rw [List.size_toArray, x.len]
structure LT (w : World) (m : Tm) (ai : Option Addr) (ci : Nat) (ao : Option Addr) (co : Nat) : Prop where
  i : LX KA w (.slice ai m.ins.length ci) m.ins
  o : LX KO w (.slice ao m.outs.length co) m.outs
theorem LT.below {w W : World} {m : Tm} {ai : Option Addr} {ci : Nat} {ao : Option Addr} {co : Nat} (h : LT w m ai ci ao co) (b : Below w.heap.size w W) : LT W m ai ci ao co := ⟨h.i.below b, h.o.below b⟩
structure Tm.fit (m : Tm) : Prop where
  i : m.ins.length * 64 ≤ 140737488355328
  o : m.outs.length * 24 ≤ 140737488355328
section
variable {w : World} {ops : Array Oper} {rest : List Oper} {o : Oper} {a : Act} {Q : Exit → Act → World → Prop}
theorem wpLoadI (x : Operand) (ho : o.op = .load 162 x) (g off : Nat) (hx : a.eval x = .pointer (some ⟨g, off, none⟩)) (y : Ti) (hr : w.rangeAt g off y.cells) (hw : Region.wanted o (yielded ops a.tmps) = true)
    (h : wpList Tryz.prog ops Q rest (a.put o.dst (.agg y.cells.toArray)) w) : wpList Tryz.prog ops Q (o :: rest) a w := wpLoadX KA Tryz.underlying162 rfl x ho g off hx y hr hw h
theorem wpLoadO (x : Operand) (ho : o.op = .load 156 x) (g off : Nat) (hx : a.eval x = .pointer (some ⟨g, off, none⟩)) (y : Tu) (hr : w.rangeAt g off y.cells) (hw : Region.wanted o (yielded ops a.tmps) = true)
    (h : wpList Tryz.prog ops Q rest (a.put o.dst (.agg y.cells.toArray)) w) : wpList Tryz.prog ops Q (o :: rest) a w := wpLoadX KO Tryz.underlying156 rfl x ho g off hx y hr hw h
end
/-! ### an input's cells -/
theorem Ti.at33 (x : Ti) : x.cells.toArray[33]? = some (.string x.key) := by
  have h : (cellsL x.hash).length = 32 := by rw [cellsL_len, x.hh]
  rw [List.getElem?_toArray, Ti.cells, List.getElem?_append_right (by omega), h]; rfl
theorem Ti.at32 (x : Ti) : x.cells.toArray[32]? = some (.int .u32 (x.idx.toNat : Int)) := by
  have h : (cellsL x.hash).length = 32 := by rw [cellsL_len, x.hh]
  rw [List.getElem?_toArray, Ti.cells, List.getElem?_append_right (by omega), h]; rfl
theorem Ti.at34 (x : Ti) : x.cells.toArray[34]? = some (.int .u32 (x.seq.toNat : Int)) := by
  have h : (cellsL x.hash).length = 32 := by rw [cellsL_len, x.hh]
  rw [List.getElem?_toArray, Ti.cells, List.getElem?_append_right (by omega), h]; rfl
theorem Ti.hashAt {W : World} {g : Nat} {t : TypeId} (x : Ti) (h : W.heap[g]? = some (.cells x.cells.toArray t (0, 0))) : W.rangeAt g 0 (cellsL x.hash) := fun j v hv => by
  have hj := (List.getElem?_eq_some_iff.1 hv).1
  rw [cell_of_row _ _ _ _ _ _ h, List.getElem?_toArray, Nat.zero_add, Ti.cells, List.getElem?_append_left hj]
  exact hv
theorem ld_hash {W : World} {g off : Nat} (y : List UInt8) (hy : y.length = 32) (hr : W.rangeAt g off (cellsL y)) : (Instr.loadAt 46 (.pointer (some ⟨g, off, none⟩))).run Tryz.prog W = .ok (.agg (hc y)) W :=
  run_loadAt_mid W g off 46 _ _ hr Tryz.underlying46 rfl (by rw [cellsL_len, hy]; kernel_rfl)
theorem wpLoadHash {w : World} {ops : Array Oper} {rest : List Oper} {o : Oper} {a : Act} {Q : Exit → Act → World → Prop} (x : Operand) (ho : o.op = .load 46 x) (g off : Nat) (hx : a.eval x = .pointer (some ⟨g, off, none⟩)) (y : List UInt8) (hy : y.length = 32) (hr : w.rangeAt g off (cellsL y)) (hw : Region.wanted o (yielded ops a.tmps) = true)
    (h : wpList Tryz.prog ops Q rest (a.put o.dst (.agg (hc y))) w) : wpList Tryz.prog ops Q (o :: rest) a w := by
  refine wpList_step fun K hK => ?_
  rw [if_pos hw]
  unfold Oper.wp execOp
  simp only [ho, hx, ld_hash y hy hr, Sem.run_bind, Result.andThen_ok, Sem.run_pure]
  exact hK _ _ h
/-! ### sizes -/
theorem txtL_len (x : ByteArray) : ((txtL x).length : Int) = clong x.size + x.size := by
  rw [txtL, List.length_append]
  have := countL_len x.size
  simp
  omega
theorem insL_take (L : List Ti) (k : Nat) (h : k < L.length) : insL (L.take (k + 1)) = insL (L.take k) ++ L[k].bytes := by
  rw [← List.take_append_getElem h]; simp only [insL, List.map_append, List.flatten_append, List.map_cons, List.map_nil, List.flatten_cons, List.flatten_nil, List.append_nil]
theorem outsL_take (L : List Tu) (k : Nat) (h : k < L.length) : outsL (L.take (k + 1)) = outsL (L.take k) ++ L[k].bytes := by
  rw [← List.take_append_getElem h]; simp only [outsL, List.map_append, List.flatten_append, List.map_cons, List.map_nil, List.flatten_cons, List.flatten_nil, List.append_nil]
theorem Ti.bytes_len (x : Ti) : (x.bytes.length : Int) = 40 + (clong x.key.size + x.key.size) := by
  have := txtL_len x.key
  simp only [Ti.bytes, List.length_append, lowL_len, x.hh]
  omega
theorem Tu.bytes_len (x : Tu) : (x.bytes.length : Int) = 8 + (clong x.lock.size + x.lock.size) := by
  have := txtL_len x.lock
  simp only [Tu.bytes, List.length_append, lowL_len]
  omega
theorem Tm.bytes_len (m : Tm) : (m.bytes.length : Int) = 8 + clong m.ins.length + clong m.outs.length + (insL m.ins).length + (outsL m.outs).length := by
  have h1 := countL_len m.ins.length
  have h2 := countL_len m.outs.length
  simp only [Tm.bytes, List.length_append, lowL_len]
  omega
theorem insL_le (L : List Ti) (k : Nat) : (insL (L.take k)).length ≤ (insL L).length := by
  have : insL L = insL (L.take k) ++ insL (L.drop k) := by simp only [insL]; rw [← List.flatten_append, ← List.map_append, List.take_append_drop]
  rw [this, List.length_append]; omega
theorem outsL_le (L : List Tu) (k : Nat) : (outsL (L.take k)).length ≤ (outsL L).length := by
  have : outsL L = outsL (L.take k) ++ outsL (L.drop k) := by simp only [outsL]; rw [← List.flatten_append, ← List.map_append, List.take_append_drop]
  rw [this, List.length_append]; omega
theorem clong_pos (n : Int) : 1 ≤ clong n := by unfold clong; repeat' split <;> omega
section
set_option maxRecDepth 10000
set_option maxHeartbeats 4000000
theorem tcountLong_any (n : Nat) (hn : n ≤ 9223372036854775807) (w : World) : Calls Tryz.prog 214 #[.int .i64 n] w fun e w' => e = .returned (.int .i64 (clong n)) ∧ w' = w := by
  have e1 : IntKind.u64.wrap (n : Int) = n := wrapu _ (by omega) (by omega)
  go_enter Tryz.func214, Tryz.ntmps214
  go_wp2_with (go_at_call 148; refine (countLong_any n _).mono ?_; rintro e w1 ⟨rfl, rfl⟩)
  go_ret
  exact ⟨rfl, rfl⟩
theorem textLong_any (x : ByteArray) (hx : clong x.size + x.size ≤ 9223372036854775807) (w : World) : Calls Tryz.prog 215 #[.string x] w fun e w' => e = .returned (.int .i64 (clong x.size + x.size)) ∧ w' = w := by
  have h1 := clong_le x.size
  have h2 := clong_pos x.size
  have e1 : IntKind.i64.wrap (clong x.size + x.size) = clong x.size + x.size := wrapI _ (by omega) (by omega)
  have HC := hide (fun W => tcountLong_any x.size (by omega) W)
  clear h1 h2 hx
  generalize clong x.size = c at *
  go_enter Tryz.func215, Tryz.ntmps215
  go_wp2_with (go_at_call 214; refine (HC.out _).mono ?_; rintro e w1 ⟨rfl, rfl⟩)
  go_ret
  exact ⟨rfl, rfl⟩
end
theorem id32' : ∀ (l : List UInt8), l.length = 32 → ∃ b0 b1 b2 b3 b4 b5 b6 b7 b8 b9 b10 b11 b12 b13 b14 b15 b16 b17 b18 b19 b20 b21 b22 b23 b24 b25 b26 b27 b28 b29 b30 b31, l = [b0, b1, b2, b3, b4, b5, b6, b7, b8, b9, b10, b11, b12, b13, b14, b15, b16, b17, b18, b19, b20, b21, b22, b23, b24, b25, b26, b27, b28, b29, b30, b31]
  | [b0, b1, b2, b3, b4, b5, b6, b7, b8, b9, b10, b11, b12, b13, b14, b15, b16, b17, b18, b19, b20, b21, b22, b23, b24, b25, b26, b27, b28, b29, b30, b31], _ => ⟨b0, b1, b2, b3, b4, b5, b6, b7, b8, b9, b10, b11, b12, b13, b14, b15, b16, b17, b18, b19, b20, b21, b22, b23, b24, b25, b26, b27, b28, b29, b30, b31, rfl⟩
structure LR (w : World) (m : Tm) (ai : Option Addr) (ci : Nat) (ao : Option Addr) (co : Nat) : Prop where
  i : LX KAr w (.slice ai m.ins.length ci) m.ins
  o : LX KOr w (.slice ao m.outs.length co) m.outs
theorem LR.below {w W : World} {m : Tm} {ai : Option Addr} {ci : Nat} {ao : Option Addr} {co : Nat} (h : LR w m ai ci ao co) (b : Below w.heap.size w W) : LR W m ai ci ao co := ⟨h.i.below b, h.o.below b⟩
section
variable {w : World} {ops : Array Oper} {rest : List Oper} {o : Oper} {a : Act} {Q : Exit → Act → World → Prop}
theorem wpList_bldX {t : TypeId} (hgd : o.guard = none) (x : Array (Nat × Operand)) (ho : o.op = .build t x) (y : Array (Nat × Value)) (c : Array Value) (hx : x.map (fun p => (p.1, a.eval p.2)) = y) (hr : ∀ W, (Instr.build t y).run Tryz.prog W = .ok (.agg c) W)
    (h : wpList Tryz.prog ops Q rest (a.put o.dst (.agg c)) w) : wpList Tryz.prog ops Q (o :: rest) a w := by
  refine wpList_plain hgd fun K hK => ?_
  unfold Oper.wp execOp
  simp only [ho, hx, hr, Sem.run_bind, Result.andThen_ok, Sem.run_pure]
  exact hK _ _ h
end
structure Gv (w W : World) (C : Array Value) (p : Tm) (ai : Option Addr) (ci : Nat) (ao : Option Addr) (co : Nat) : Prop where
  bel : Below w.heap.size w W
  r0 : W.heap[w.heap.size]? = some (.cells C 152 (0, 0))
  r1 : W.heap[w.heap.size + 1]? = some (.cells (zT.cells none 0 none 0) 74 (0, 0))
  r2 : W.heap[w.heap.size + 1 + 1]? = some (.cells (p.cells ai ci ao co) 74 (0, 0))
  xi : OX KAr W (.slice ai p.ins.length ci) p.ins
  fi : ∀ g, (Value.slice ai p.ins.length ci).ownBlock = some g → w.heap.size + 1 + 1 < g
  xo : OX KOr W (.slice ao p.outs.length co) p.outs
  fo : ∀ g, (Value.slice ao p.outs.length co).ownBlock = some g → w.heap.size + 1 + 1 < g
section
variable {w W W' : World} {C : Array Value} {p : Tm} {ai : Option Addr} {ci : Nat} {ao : Option Addr} {co : Nat}
theorem Gv.next (h : Gv w W C p ai ci ao co) (k : Below W.heap.size W W') : Gv w W' C p ai ci ao co := ⟨below_next h.bel k, (k.block _ (lt_heap h.r0)).trans h.r0, (k.block _ (lt_heap h.r1)).trans h.r1, (k.block _ (lt_heap h.r2)).trans h.r2, h.xi.below k, h.fi, h.xo.below k, h.fo⟩
theorem Gv.onto {v v' : Value} (h : Gv w W C p ai ci ao co) (o : Obj) (fv : ∀ g, v.ownBlock = some g → w.heap.size + 1 + 1 < g) (on : Onto (W.alloc o) W' v v') : Below w.heap.size w W' ∧ (∀ k, k ≤ w.heap.size + 1 + 1 → W'.heap[k]? = W.heap[k]?) ∧ ∀ g, v'.ownBlock = some g → w.heap.size + 1 + 1 < g := by
  have hr := lt_heap h.r2
  have hsz : (W.alloc o).heap.size = W.heap.size + 1 := by simp
  have hk : ∀ k, k ≤ w.heap.size + 1 + 1 → W'.heap[k]? = W.heap[k]? := fun k hk => (on.grown.block k (by omega) (fun e => by have := fv k e.symm; omega)).trans (Below.heap_alloc W o k (by omega))
  have g := on.grown
  have ba : Below W.heap.size W (W.alloc o) := (Below.refl _ _).alloc (Nat.le_refl _) _
  refine ⟨⟨(g.os.trans ba.os).trans h.bel.os, (g.tape.trans ba.tape).trans h.bel.tape, (g.output.trans ba.output).trans h.bel.output, ?_, fun k k1 => (hk k (by omega)).trans (h.bel.block k k1)⟩, hk, fun b hb => ?_⟩
  · have := h.bel.size
    have := g.size
    omega
  · rcases on.lies with q | ⟨c, q, hc⟩
    · exact fv b (by rw [← q]; exact hb)
    · rw [q] at hb
      cases hb
      omega
theorem OX.type {α : Type} {E : Ek α} {v : Value} {L : List α} (h : OX E W v L) : ∀ g, v.ownBlock = some g → ∃ c, W.heap[g]? = some (.cells c E.e (0, 0)) := by
  intro g hg
  rcases h.2 with ⟨rfl, h0⟩ | ⟨g', cap, cur, rfl, h4, hb, h5⟩
  · cases hg
  · cases hg
    exact ⟨cur, hb⟩
theorem Gv.other {ai' : Option Addr} {ci' : Nat} {x : Ti} (h : Gv w W C p ai ci ao co) (o : Obj) (on : Onto (W.alloc o) W' (.slice ai p.ins.length ci) (.slice ai' (p.ins ++ [x]).length ci')) : ∀ g, (Value.slice ao p.outs.length co).ownBlock = some g → W'.heap[g]? = W.heap[g]? := fun g hg => by
  have hlt := h.xo.lt g hg
  have hsz : (W.alloc o).heap.size = W.heap.size + 1 := by simp
  refine (on.grown.block g (by omega) (fun e => ?_)).trans (Below.heap_alloc W o g hlt)
  obtain ⟨c1, q1⟩ := h.xo.type g hg
  obtain ⟨c2, q2⟩ := h.xi.type g e.symm
  rw [q1] at q2
  injection q2 with q2
  injection q2 with _ q3
  exact absurd q3 (by decide)
end
end Go.Proofs.YtcoojkpimbddlaaGreatDoor
