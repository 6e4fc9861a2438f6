/- Transactions: what they hold, their bytes; what it means that a part is taken off bytes. Transactions: laws of lists, of drawn regions, of writers, that they stand on. -/
import Derived.Test.YtofddbjnncgmlaaGreatDoorX09
import Derived.BigQuiet
import Derived.Deep.RegionHeld3
namespace Go.Proofs.YtofddbjnncgmlaaGreatDoor
open Go.RowKit
open Go.Deep
set_option linter.unusedVariables false
/-- An input. -/
structure Ti where
  hash : List UInt8
  idx : UInt32
  key : ByteArray
  seq : UInt32
  hh : hash.length = 32
  deriving DecidableEq
/-- An output. -/
structure Tu where
  val : UInt64
  lock : ByteArray
  deriving DecidableEq
/-- A transaction. -/
structure Tm where
  ver : UInt32
  ins : List Ti
  outs : List Tu
  time : UInt32
  deriving DecidableEq
def Ti.cells (x : Ti) : List Value := cellsL x.hash ++ [.int .u32 (x.idx.toNat : Int), .string x.key, .int .u32 (x.seq.toNat : Int)]
def Tu.cells (x : Tu) : List Value := [.int .u64 (x.val.toNat : Int), .string x.lock]
theorem Ti.len (x : Ti) : x.cells.length = 35 := by simp [Ti.cells, cellsL_len, x.hh]
theorem Ti.one (x : Ti) : ∀ v ∈ x.cells, v.oneCell' = true := fun v hv => by
  simp only [Ti.cells, List.mem_cons, List.mem_append, List.not_mem_nil, or_false] at hv
  rcases hv with h | rfl | rfl | rfl
  · exact cellsL_one _ v h
  all_goals rfl
theorem Tu.one (x : Tu) : ∀ v ∈ x.cells, v.oneCell' = true := fun v hv => by
  simp only [Tu.cells, List.mem_cons, List.not_mem_nil, or_false] at hv
  rcases hv with rfl | rfl <;> rfl
def KA : Ek Ti := ⟨187, 223, 35, 64, Ti.cells, by decide, by decide, Tryz.underlying187, by kernel_rfl, Ti.len, Ti.one⟩
def KAr : Ek Ti := ⟨214, 225, 35, 64, Ti.cells, by decide, by decide, Tryz.underlying214, by kernel_rfl, Ti.len, Ti.one⟩
def KO : Ek Tu := ⟨188, 193, 2, 24, Tu.cells, by decide, by decide, Tryz.underlying188, by kernel_rfl, fun _ => rfl, Tu.one⟩
def KOr : Ek Tu := ⟨215, 133, 2, 24, Tu.cells, by decide, by decide, Tryz.underlying215, by kernel_rfl, fun _ => rfl, Tu.one⟩
/-! ### bytes -/
/-- A text with its count. -/
def txtL (x : ByteArray) : List UInt8 := countL x.size ++ x.data.toList
def Ti.bytes (x : Ti) : List UInt8 := x.hash ++ (lowL x.idx.toNat 4 ++ (txtL x.key ++ lowL x.seq.toNat 4))
def Tu.bytes (x : Tu) : List UInt8 := lowL x.val.toNat 8 ++ txtL x.lock
def insL (l : List Ti) : List UInt8 := (l.map Ti.bytes).flatten
def outsL (l : List Tu) : List UInt8 := (l.map Tu.bytes).flatten
def Tm.bytes (x : Tm) : List UInt8 := lowL x.ver.toNat 4 ++ ((countL x.ins.length ++ insL x.ins) ++ ((countL x.outs.length ++ outsL x.outs) ++ lowL x.time.toNat 4))
/-- What a transaction that is read keeps to. -/
def Ti.ok (x : Ti) : Prop := x.key.size ≤ 520
def Tu.ok (x : Tu) : Prop := x.lock.size ≤ 520
def Tm.ok (x : Tm) : Prop := (x.ins.length ≤ 4096 ∧ ∀ i ∈ x.ins, i.ok) ∧ (x.outs.length ≤ 4096 ∧ ∀ o ∈ x.outs, o.ok)
/-! ### parts that are taken -/
/-- From the place n, with the error e, a part was taken: x, the place n', the error e'. -/
structure Tk {α : Type} (enc : α → List UInt8) (ok : α → Prop) (t : ByteArray) (n : Nat) (e : Int) (x : α) (n' : Nat) (e' : Int) : Prop where
  lo : n ≤ n'
  hi : n' ≤ t.size
  sound : e' = 0 → e = 0 ∧ t.data.toList.drop n = enc x ++ t.data.toList.drop n' ∧ ok x ∧ n' ≤ 4096
  full : ∀ y Y, e = 0 → ok y → t.data.toList.drop n = enc y ++ Y → n + (enc y).length ≤ 4096 → e' = 0 ∧ x = y ∧ n' = n + (enc y).length
section
variable {α β : Type} {enc : α → List UInt8} {ok : α → Prop} {encB : β → List UInt8} {okB : β → Prop} {t : ByteArray} {n n1 n2 : Nat} {e e1 e2 : Int} {x : α} {y : β}
theorem Tk.seq (a : Tk enc ok t n e x n1 e1) (b : Tk encB okB t n1 e1 y n2 e2) : Tk (fun p : α × β => enc p.1 ++ encB p.2) (fun p => ok p.1 ∧ okB p.2) t n e (x, y) n2 e2 := by
  refine ⟨Nat.le_trans a.lo b.lo, b.hi, fun h => ?_, ?_⟩
  · obtain ⟨h1, h2, h3, h4⟩ := b.sound h
    obtain ⟨g1, g2, g3, g4⟩ := a.sound h1
    exact ⟨g1, by rw [g2, h2, List.append_assoc], ⟨g3, h3⟩, h4⟩
  · rintro ⟨y1, y2⟩ Y he ⟨o1, o2⟩ hd hl
    simp only at hd hl o1 o2 ⊢
    rw [List.append_assoc] at hd
    rw [List.length_append] at hl ⊢
    obtain ⟨g1, rfl, g3⟩ := a.full y1 _ he o1 hd (by omega)
    have hd2 : t.data.toList.drop n1 = encB y2 ++ Y := by rw [g3, ← List.drop_drop, hd, List.drop_left]
    obtain ⟨h1, rfl, h3⟩ := b.full y2 Y g1 o2 hd2 (by omega)
    exact ⟨h1, rfl, by omega⟩
theorem Tk.conv (a : Tk enc ok t n e x n1 e1) (f : α → β) (h1 : ∀ z, ok z → encB (f z) = enc z) (h2 : ∀ z, ok z → okB (f z)) (h3 : ∀ y, okB y → ∃ z, f z = y ∧ ok z) : Tk encB okB t n e (f x) n1 e1 := by
  refine ⟨a.lo, a.hi, fun h => ?_, fun y Y he ho hd hl => ?_⟩
  · obtain ⟨g1, g2, g3, g4⟩ := a.sound h
    exact ⟨g1, by rw [h1 _ g3]; exact g2, h2 _ g3, g4⟩
  · obtain ⟨z, rfl, oz⟩ := h3 y ho
    rw [h1 _ oz] at hd hl ⊢
    obtain ⟨g1, rfl, g3⟩ := a.full z Y he oz hd hl
    exact ⟨g1, rfl, g3⟩
theorem Tk.nil (hn : n ≤ t.size) (h0 : e = 0 → n ≤ 4096) : Tk (fun l : List α => (l.map enc).flatten) (fun l => l.length = 0 ∧ ∀ z ∈ l, ok z) t n e [] n e := by
  refine ⟨Nat.le_refl _, hn, fun h => ⟨h, rfl, ⟨rfl, fun z hz => by cases hz⟩, h0 h⟩, fun l Y he ho hd hl => ?_⟩
  have : l = [] := List.eq_nil_of_length_eq_zero ho.1
  subst this
  exact ⟨he, rfl, rfl⟩
theorem Tk.snoc {L : List α} {i : Nat} (a : Tk (fun l : List α => (l.map enc).flatten) (fun l => l.length = i ∧ ∀ z ∈ l, ok z) t n e L n1 e1) (b : Tk enc ok t n1 e1 x n2 e2) : Tk (fun l : List α => (l.map enc).flatten) (fun l => l.length = i + 1 ∧ ∀ z ∈ l, ok z) t n e (L ++ [x]) n2 e2 := by
  refine (a.seq b).conv (fun p => p.1 ++ [p.2]) (fun z _ => by simp) (fun z hz => ⟨by simp [hz.1.1], fun u hu => ?_⟩) (fun y hy => ?_)
  · rcases List.mem_append.1 hu with h | h
    · exact hz.1.2 u h
    · rw [List.mem_singleton.1 h]; exact hz.2
  · have hne : y ≠ [] := fun h => by rw [h] at hy; simp at hy
    refine ⟨(y.dropLast, y.getLast hne), List.dropLast_concat_getLast hne, ⟨by simp [hy.1], fun z hz => hy.2 z (List.dropLast_subset _ hz)⟩, hy.2 _ (List.getLast_mem hne)⟩
/-- A list, behind its count, taken to its end. -/
theorem Tk.list {L : List α} {c most : Nat} (a : Tk countL (fun k => k ≤ most) t n e c n1 e1) (b : Tk (fun l : List α => (l.map enc).flatten) (fun l => l.length = c ∧ ∀ z ∈ l, ok z) t n1 e1 L n2 e2) : Tk (fun l : List α => countL l.length ++ (l.map enc).flatten) (fun l => l.length ≤ most ∧ ∀ z ∈ l, ok z) t n e L n2 e2 := by
  refine ⟨Nat.le_trans a.lo b.lo, b.hi, fun h => ?_, fun l Y he ho hd hl => ?_⟩
  · obtain ⟨h1, h2, h3, h4⟩ := b.sound h
    obtain ⟨g1, g2, g3, g4⟩ := a.sound h1
    exact ⟨g1, by rw [g2, h2, List.append_assoc, h3.1], ⟨by rw [h3.1]; exact g3, h3.2⟩, h4⟩
  · rw [List.append_assoc] at hd
    rw [List.length_append] at hl ⊢
    obtain ⟨g1, g2, g3⟩ := a.full l.length _ he ho.1 hd (by omega)
    have hd2 : t.data.toList.drop n1 = (l.map enc).flatten ++ Y := by rw [g3, ← List.drop_drop, hd, List.drop_left]
    obtain ⟨h1, h2, h3⟩ := b.full l Y g1 ⟨g2.symm, ho.2⟩ hd2 (by omega)
    exact ⟨h1, h2, by omega⟩
/-- .. left at an error in its midst. -/
theorem Tk.left {L : List α} {c most i : Nat} (a : Tk countL (fun k => k ≤ most) t n e c n1 e1) (b : Tk (fun l : List α => (l.map enc).flatten) (fun l => l.length = i ∧ ∀ z ∈ l, ok z) t n1 e1 L n2 e2) (hi : i ≤ c) (hne : e2 ≠ 0) : Tk (fun l : List α => countL l.length ++ (l.map enc).flatten) (fun l => l.length ≤ most ∧ ∀ z ∈ l, ok z) t n e [] n2 e2 := by
  refine ⟨Nat.le_trans a.lo b.lo, b.hi, fun h => absurd h hne, fun l Y he ho hd hl => ?_⟩
  exfalso
  rw [List.append_assoc] at hd
  rw [List.length_append] at hl
  obtain ⟨g1, g2, g3⟩ := a.full l.length _ he ho.1 hd (by omega)
  have hd2 : t.data.toList.drop n1 = (l.map enc).flatten ++ Y := by rw [g3, ← List.drop_drop, hd, List.drop_left]
  have hs : (l.map enc).flatten = ((l.take i).map enc).flatten ++ ((l.drop i).map enc).flatten := by
    rw [← List.flatten_append, ← List.map_append, List.take_append_drop]
  have hsl := congrArg List.length hs
  rw [List.length_append] at hsl
  rw [hs, List.append_assoc] at hd2
  obtain ⟨h1, _, _⟩ := b.full (l.take i) _ g1 ⟨by rw [List.length_take]; omega, fun z hz => ho.2 z (List.mem_of_mem_take hz)⟩ hd2 (by omega)
  exact hne h1
end
end Go.Proofs.YtofddbjnncgmlaaGreatDoor
namespace Go.Proofs.YtofddbjnncgmlaaGreatDoor
open Go.RowKit
open Go.Deep
set_option linter.unusedVariables false
theorem at_list {P : Program} {ops : Array Oper} {Q : Exit → Act → World → Prop} {l : List Oper} {a : Act} {w : World} (h : wpList P ops Q l a w) : wpList P ops Q l a w := h
theorem wpList_loadS {t : TypeId} {n : Nat} {z : Array Value} {w : World} {ops : Array Oper} {rest : List Oper} {o : Oper} {a : Act} {Q : Exit → Act → World → Prop} (A : Arr t n z) (x : Operand) (ho : o.op = .load t x) (g : Nat) (hx : a.eval x = .pointer (some ⟨g, 0, none⟩)) (c : Array Value) (hn : c.size = n) (t' : TypeId) (hg : w.heap[g]? = some (.cells c t' (0, 0))) (hw : Region.wanted o (yielded ops a.tmps) = true)
    (h : wpList Tryz.prog ops Q rest (a.put o.dst (.agg c)) w) : wpList Tryz.prog ops Q (o :: rest) a w := by
  refine wpList_step fun K hK => ?_
  rw [if_pos hw]
  unfold Oper.wp execOp
  simp only [ho, hx, Sem.run_bind, ld_row A hn hg, Result.andThen_ok, Sem.run_pure]
  exact hK _ _ h
theorem resA2K {t : TypeId} {n : Nat} {z : Array Value} (A : Arr t n z) {fn : Func} {p u : Tmp} (hf : fn.results = #[.cell p t, .tmp u]) (tmps : Array Value) (w : World) (g : Nat) (t' : TypeId) (c : Array Value) (hn : c.size = n)
    (hp : tmps.getD p undef = .pointer (some ⟨g, 0, none⟩)) (hg : w.heap[g]? = some (.cells c t' (0, 0))) (x : Value) (hx : tmps.getD u undef = x) : (results fn tmps).run Tryz.prog w = .ok (.tuple #[.agg c, x]) w := by
  subst hx
  have hp' : tmps[p]?.getD undef = .pointer (some ⟨g, 0, none⟩) := by simpa using hp
  rcases A.und with ⟨m, e, hd⟩ | ⟨fs, hd⟩ <;> simp [results, hf, hp', asAddr, run_loadVar_row w g t' t c (0, 0) _ hg hd rfl (by rw [A.info, hn])]
theorem resA3K {t : TypeId} {n : Nat} {z : Array Value} (A : Arr t n z) {fn : Func} {p u v : Tmp} (hf : fn.results = #[.cell p t, .tmp u, .tmp v]) (tmps : Array Value) (w : World) (g : Nat) (t' : TypeId) (c : Array Value) (hn : c.size = n)
    (hp : tmps.getD p undef = .pointer (some ⟨g, 0, none⟩)) (hg : w.heap[g]? = some (.cells c t' (0, 0))) (x : Value) (hx : tmps.getD u undef = x) (y : Value) (hy : tmps.getD v undef = y) : (results fn tmps).run Tryz.prog w = .ok (.tuple #[.agg c, x, y]) w := by
  subst hx hy
  have hp' : tmps[p]?.getD undef = .pointer (some ⟨g, 0, none⟩) := by simpa using hp
  rcases A.und with ⟨m, e, hd⟩ | ⟨fs, hd⟩ <;> simp [results, hf, hp', asAddr, run_loadVar_row w g t' t c (0, 0) _ hg hd rfl (by rw [A.info, hn])]
theorem txt_app (a b : List UInt8) : txt a ++ txt b = txt (a ++ b) := by
  apply ByteArray.ext
  simp [txt]
theorem txt_sz (a : List UInt8) : (txt a).size = a.length := by show a.toArray.size = _; simp
section
variable {α : Type} {w : World} {ops : Array Oper} {o : Oper} {a : Act} {K : Act → World → Prop} {Q : Exit → Act → World → Prop} {E0 : Prop}
theorem Ek.stepBs1 (E : Ek α) (hgd : o.guard = none) (x : Operand) (ho : o.op = .buildSlice E.t 1 #[(0, x)]) (h : α) (hx : a.eval x = .agg (E.enc h).toArray)
    (hk : K (a.put o.dst (.slice (some ⟨w.heap.size, 0, none⟩) 1 1)) (w.alloc (.cells (E.enc h).toArray E.e))) :
    if Region.wanted o (yielded ops a.tmps) = true then Oper.wp Tryz.prog o a w K Q else E0 := by
  have hw : Region.wanted o (yielded ops a.tmps) = true := by simp [Region.wanted, hgd]
  rw [if_pos hw]
  unfold Oper.wp execOp
  simp only [ho, List.map_toArray, List.map_cons, List.map_nil, hx, E.bs1 w h, Sem.run_bind, Result.andThen_ok, Sem.run_pure]
  exact hk
theorem Ek.stepApp (E : Ek α) (hgd : o.guard = none) (s x : Operand)
    (ho : o.op = .call { callee := .builtin .append, args := #[s, x], argTypes := #[E.t, E.t] })
    (v : Value) (L : List α) (hs : a.eval s = v) (hown : OX E w v L)
    (ad : Addr) (h : α) (hx : a.eval x = .slice (some ad) 1 1) (hnews : ∀ j u, (flatE E [h])[j]? = some u → w.cell? (ad.add j) = some u) (hsm : (L.length + 1) * E.b ≤ 140737488355328) (h63 : L.length + 1 ≤ maxLen)
    (h : ∀ v' w', OX E w' v' (L ++ [h]) → Onto w w' v v' → K (a.put o.dst v') w') :
    if Region.wanted o (yielded ops a.tmps) = true then Oper.wp Tryz.prog o a w K Q else E0 := by
  have hw : Region.wanted o (yielded ops a.tmps) = true := by simp [Region.wanted, hgd]
  rw [if_pos hw]
  obtain ⟨v', w', hr, h2, h3⟩ := E.app (ty := o.type) hown ad 1 1 [_] rfl hnews hsm h63
  unfold Oper.wp execOp
  simp only [ho, resolve, invoke, builtin, Sem.run_bind, Sem.run_pure, Result.andThen_ok, List.map_toArray, List.map_cons, List.map_nil, hs, hx, hr]
  exact h v' w' h2 h3
end
section
variable {α : Type} {E : Ek α} {w : World}
theorem LX.news {ad : Addr} {n c : Nat} {L : List α} (h : LX E w (.slice (some ad) n c) L) : ∀ j u, (flatE E L)[j]? = some u → w.cell? (ad.add j) = some u := by
  intro j u hu
  have hj := (List.getElem?_eq_some_iff.1 hu).1
  rw [flatE_len] at hj
  have hk := E.kpos
  have hi : j / E.k < L.length := Nat.div_lt_of_lt_mul (by rw [Nat.mul_comm]; exact hj)
  have hr : j % E.k < E.k := Nat.mod_lt _ hk
  have e1 := flatE_at E L (j / E.k) hi (j % E.k) hr
  rw [show j / E.k * E.k + j % E.k = j by rw [Nat.mul_comm]; exact Nat.div_add_mod j E.k] at e1
  obtain ⟨g, off, e⟩ := h.base (Nat.lt_of_le_of_lt (Nat.zero_le _) hi)
  cases e
  have := h.range (j / E.k) hi (j % E.k) u (by rw [← e1]; exact hu)
  rw [show off + j / E.k * E.k + j % E.k = off + j by rw [Nat.add_assoc, Nat.mul_comm, Nat.div_add_mod]] at this
  have hadd : (⟨g, off, none⟩ : Addr).add j = ⟨g, off + j, none⟩ := by unfold Addr.add; split <;> simp_all
  rw [hadd]
  exact this
end
section
variable {ops : Array Oper} {S : World → Prop} {o : Oper} {a : Act}
theorem yl_load (hw : Region.wanted o (yielded ops a.tmps) = true) {t : TypeId} (x : Operand) (ho : o.op = .load t x) (v : Value) (c : Array Value) (hx : a.eval x = v) (hr : ∀ W, S W → (Instr.loadAt t v).run Tryz.prog W = .ok (.agg c) W) : YieldsIf Tryz.prog ops S o (.agg c) a :=
  .inl ⟨hw, fun W hW => by
    unfold execOp
    simp only [ho, hx, hr W hW, Sem.run_bind, Result.andThen_ok, Sem.run_pure]⟩
theorem yl_build (hw : Region.wanted o (yielded ops a.tmps) = true) {t : TypeId} (x : Array (Nat × Operand)) (ho : o.op = .build t x) (y : Array (Nat × Value)) (c : Array Value) (hx : x.map (fun p => (p.1, a.eval p.2)) = y) (hr : ∀ W, (Instr.build t y).run Tryz.prog W = .ok (.agg c) W) : YieldsIf Tryz.prog ops S o (.agg c) a :=
  .inl ⟨hw, fun W hW => by
    unfold execOp
    simp only [ho, hx, hr W, Sem.run_bind, Result.andThen_ok, Sem.run_pure]⟩
theorem yl_move (hw : Region.wanted o (yielded ops a.tmps) = true) (x : Operand) (ho : o.op = .move x) (v : Value) (hx : a.eval x = v) : YieldsIf Tryz.prog ops S o v a :=
  .inl ⟨hw, fun W _ => by
    unfold execOp
    simp only [ho, hx, Sem.run_pure]⟩
end
section
variable {w : World} {ops : Array Oper} {o : Oper} {a : Act} {K : Act → World → Prop} {Q : Exit → Act → World → Prop} {E0 : Prop} {t : TypeId} {n : Nat} {z : Array Value}
theorem stepAllocA (A : Arr t n z) (hgd : o.guard = none) (ho : o.op = .alloc t) (h : K (a.put o.dst (.pointer (some ⟨w.heap.size, 0, none⟩))) (w.alloc (.cells z t))) : if Region.wanted o (yielded ops a.tmps) = true then Oper.wp Tryz.prog o a w K Q else E0 := by
  have hw : Region.wanted o (yielded ops a.tmps) = true := by simp [Region.wanted, hgd]
  rw [if_pos hw]
  unfold Oper.wp execOp
  simp only [ho, A.alloc, Sem.run_bind, Result.andThen_ok, Sem.run_pure]
  exact h
theorem stepStoreA (A : Arr t n z) (hgd : o.guard = none) (x y : Operand) (ho : o.op = .store t x y) (g : Nat) (c : Array Value) (hn : c.size = n) (h1 : c.all (·.oneCell') = true) (hx : a.eval x = .pointer (some ⟨g, 0, none⟩)) (hy : a.eval y = .agg c)
    (c0 : Array Value) (hn0 : c0.size = n) (t' : TypeId) (hg : w.heap[g]? = some (.cells c0 t' (0, 0))) (h : K (a.put o.dst undef) (w.setRow g c)) : if Region.wanted o (yielded ops a.tmps) = true then Oper.wp Tryz.prog o a w K Q else E0 := by
  have hw : Region.wanted o (yielded ops a.tmps) = true := by simp [Region.wanted, hgd]
  rw [if_pos hw]
  exact wp_store_row t x y ho g c hx hy t' c0 hg (by rw [A.info, hn]) (by rw [hn, hn0]) h1 h
end
section
variable {α : Type} {w : World} {ops : Array Oper} {rest : List Oper} {o : Oper} {a : Act} {Q : Exit → Act → World → Prop}
theorem Ek.wpApp (E : Ek α) (hgd : o.guard = none) (x y : Operand)
    (ho : o.op = .call { callee := .builtin .append, args := #[x, y], argTypes := #[E.t, E.t] })
    (v : Value) (L : List α) (hx : a.eval x = v) (hown : OX E w v L)
    (ad : Addr) (n c : Nat) (N : List α) (hn : n = N.length) (hy : a.eval y = .slice (some ad) n c) (hnews : ∀ j u, (flatE E N)[j]? = some u → w.cell? (ad.add j) = some u) (hsm : (L.length + n) * E.b ≤ 140737488355328) (h63 : L.length + n ≤ maxLen)
    (h : ∀ v' w', OX E w' v' (L ++ N) → Onto w w' v v' → wpList Tryz.prog ops Q rest (a.put o.dst v') w') :
    wpList Tryz.prog ops Q (o :: rest) a w := by
  refine wpList_plain hgd fun K hK => ?_
  obtain ⟨v', w', hr, h2, h3⟩ := E.app (ty := o.type) hown ad n c N hn hnews hsm h63
  unfold Oper.wp execOp
  simp only [ho, resolve, invoke, builtin, Sem.run_bind, Sem.run_pure, Result.andThen_ok, List.map_toArray, List.map_cons, List.map_nil, hx, hy, hr]
  exact hK _ _ (h v' w' h2 h3)
theorem Ek.wpBs1 (E : Ek α) (hgd : o.guard = none) (x : Operand) (ho : o.op = .buildSlice E.t 1 #[(0, x)]) (h : α) (hx : a.eval x = .agg (E.enc h).toArray)
    (hk : wpList Tryz.prog ops Q rest (a.put o.dst (.slice (some ⟨w.heap.size, 0, none⟩) 1 1)) (w.alloc (.cells (E.enc h).toArray E.e))) : wpList Tryz.prog ops Q (o :: rest) a w := by
  refine wpList_plain hgd fun K hK => ?_
  unfold Oper.wp execOp
  simp only [ho, List.map_toArray, List.map_cons, List.map_nil, hx, E.bs1 w h, Sem.run_bind, Result.andThen_ok, Sem.run_pure]
  exact hK _ _ hk
theorem wpLoadX (E : Ek α) {kd : TypeDesc} (hu : Tryz.prog.underlying E.e = some kd) (hk : kd.isRow = true) (x : Operand) (ho : o.op = .load E.e x) (g off : Nat) (hx : a.eval x = .pointer (some ⟨g, off, none⟩)) (y : α) (hr : w.rangeAt g off (E.enc y)) (hw : Region.wanted o (yielded ops a.tmps) = true)
    (h : wpList Tryz.prog ops Q rest (a.put o.dst (.agg (E.enc y).toArray)) w) : wpList Tryz.prog ops Q (o :: rest) a w := by
  refine wpList_step fun K hK => ?_
  rw [if_pos hw]
  unfold Oper.wp execOp
  simp only [ho, hx, E.load y hu hk hr, Sem.run_bind, Result.andThen_ok, Sem.run_pure]
  exact hK _ _ h
end
structure Wb (B w : World) (b : Nat) (l : List UInt8) : Prop where
  st : Wst w (.pointer (some ⟨b, 0, none⟩)) l
  bel : Below B.heap.size B w
  far : B.heap.size ≤ b
  row : ∀ k, rowOf w (.pointer (some ⟨b, 0, none⟩)) = some k → B.heap.size ≤ k
theorem Wb.new (w : World) : Wb w (w.alloc (.cells #[.slice none 0 0] 364)) w.heap.size [] := by
  refine ⟨Wst.new w, (Below.refl _ _).alloc (Nat.le_refl _) _, Nat.le_refl _, fun k hk => ?_⟩
  have hc : (w.alloc (.cells #[.slice none 0 0] 364)).cell? ⟨w.heap.size, 0, none⟩ = some (.slice none 0 0) := by
    rw [cell_of_row _ _ 0 _ _ _ (heap_alloc_new w _)]; rfl
  simp [rowOf, hc, Value.ownBlock] at hk
theorem Wb.step {B w w' : World} {b : Nat} {l l' : List UInt8} (h : Wb B w b l) (s : Wst w' (.pointer (some ⟨b, 0, none⟩)) l') (f : Wfr w w' (.pointer (some ⟨b, 0, none⟩))) : Wb B w' b l' := by
  have hs := h.bel.size
  refine ⟨s, h.bel.trans ⟨f.os, f.tape, f.output, f.size, fun k hk => f.block k (by omega) ?_ ?_⟩, h.far, fun k hk => ?_⟩
  · have := h.far
    simp [blkOf]
    omega
  · intro e
    have := h.row k e
    omega
  · rcases f.lies with e | ⟨g, e, hg⟩
    · exact h.row k (by rw [← e]; exact hk)
    · rw [e] at hk
      cases hk
      omega
theorem Wb.next {B w w' : World} {b : Nat} {l : List UInt8} (h : Wb B w b l) (k : Below w.heap.size w w') : Wb B w' b l := h.step (h.st.below k) (Wfr.of_below h.st k)
abbrev pb (b : Nat) : Value := .pointer (some ⟨b, 0, none⟩)
theorem Wst.row_lt {w : World} {b k : Nat} {l : List UInt8} (h : Wst w (pb b) l) (hk : rowOf w (pb b) = some k) : k < w.heap.size := by
  rcases h with h | ⟨b', v, hp, hc, hf, ho, hne⟩
  · cases h
  · cases hp
    have e : v.ownBlock = some k := by
      have : rowOf w (pb b) = v.ownBlock := by simp [rowOf, hc]
      rw [← this]
      exact hk
    rcases ho.2 with ⟨rfl, h0⟩ | ⟨g', cap, cur, rfl, h4, hg, h5⟩
    · cases e
    · cases e
      exact lt_heap hg
theorem Wst.lt {w : World} {b : Nat} {l : List UInt8} (h : Wst w (pb b) l) : b < w.heap.size := by
  rcases h with h | ⟨b', v, hp, hc, hf, ho, hne⟩
  · cases h
  · cases hp
    exact block_lt_of_cell hc
structure Wx (B A w : World) (b : Nat) (l : List UInt8) : Prop where
  wb : Wb B w b l
  fr : Wfr A w (pb b)
theorem Wx.start {B A : World} {b : Nat} {l : List UInt8} (h : Wb B A b l) : Wx B A A b l := ⟨h, Wfr.refl _ _⟩
theorem Wx.step {B A w w' : World} {b : Nat} {l l' : List UInt8} (h : Wx B A w b l) (s : Wb B w' b l') (f : Wfr w w' (pb b)) : Wx B A w' b l' := ⟨s, h.fr.trans f⟩
theorem Wx.stepN {B A w w' : World} {b : Nat} {l l' : List UInt8} (h : Wx B A w b l) (s : Wst w' (pb b) l') (f : Wfr w w' (pb b)) : Wx B A w' b l' := ⟨h.wb.step s f, h.fr.trans f⟩
theorem Wx.next {B A w w' : World} {b : Nat} {l : List UInt8} (h : Wx B A w b l) (k : Below w.heap.size w w') : Wx B A w' b l := ⟨h.wb.next k, h.fr.trans (Wfr.of_below h.wb.st k)⟩
theorem Wx.kept {B A0 A w : World} {b g : Nat} {l l0 : List UInt8} (h : Wx B A w b l) (h0 : Wb B A0 b l0) (k : Below A0.heap.size A0 A) (h1 : A0.heap.size ≤ g) (h2 : g < A.heap.size) : w.heap[g]? = A.heap[g]? := by
  have hb := h0.st.lt
  refine h.fr.block g h2 (by simp [blkOf]; omega) (fun e => ?_)
  have h3 := Wfr.of_below h0.st k
  have e2 : rowOf A (pb b) = rowOf A0 (pb b) := by
    have : A.cell? ⟨b, 0, none⟩ = A0.cell? ⟨b, 0, none⟩ := k.cell (p := ⟨b, 0, none⟩) hb
    simp [rowOf, this]
  rw [e2] at e
  have := h0.st.row_lt e
  omega
theorem Wx.back {B A0 A w : World} {b : Nat} {l l0 : List UInt8} (h : Wx B A w b l) (h0 : Wb B A0 b l0) (k : Below A0.heap.size A0 A) : Wfr A0 w (pb b) := (Wfr.of_below h0.st k).trans h.fr
theorem conv_mid (w : World) (g off : Nat) (l : List UInt8) (h : w.rangeAt g off (cellsL l)) (n : Nat) (hn : n = l.length) : (convert 308 9 (.slice (some ⟨g, off, none⟩) n n)).run Tryz.prog w = .ok (.string ⟨l.toArray⟩) w := by
  have := run_convert_bytes_back (P := Tryz.prog) w 308 9 5 ⟨g, off, none⟩ n l Tryz.underlying308 Tryz.underlying5 Tryz.underlying9 (fun j hj => by
    have hadd : (⟨g, off, none⟩ : Addr).add j = ⟨g, off + j, none⟩ := by unfold Addr.add; split <;> simp_all
    rw [hadd]
    exact h j _ (by simp [cellsL, hj]))
  rwa [← hn] at this
theorem row_setCells (R : List Value) (g : Nat) (t : TypeId) : ∀ (Y X A : List Value) (w : World), w.heap[g]? = some (.cells (A ++ (X ++ R)).toArray t (0, 0)) → X.length = Y.length → (w.setCells g A.length Y).heap[g]? = some (.cells (A ++ (Y ++ R)).toArray t (0, 0))
  | [], X, A, w, h, hl => by
    have : X = [] := List.length_eq_zero_iff.1 hl
    subst this
    exact h
  | v :: r, [], A, w, h, hl => by simp at hl
  | v :: r, x :: X, A, w, h, hl => by
    have h1 := heap_setCell_same w g A.length _ _ v h
    have e : (A ++ (x :: X ++ R)).toArray.setIfInBounds A.length v = ((A ++ [v]) ++ (X ++ R)).toArray := by
      rw [List.setIfInBounds_toArray]
      simp
    rw [e] at h1
    have := row_setCells R g t r X (A ++ [v]) _ h1 (by simpa using hl)
    rw [List.length_append] at this
    simp only [List.append_assoc] at this ⊢
    exact this
theorem Rfr.via {b g : Nat} {w W1 W2 : World} (h : Rfr b w W1) (f : Rfr g W1 W2) (hg : w.heap.size ≤ g) : Rfr b w W2 := ⟨f.os.trans h.os, f.tape.trans h.tape, f.output.trans h.output, Nat.le_trans h.size f.size, fun k hk hb => (f.block k (Nat.lt_of_lt_of_le hk h.size) (by omega)).trans (h.block k hk hb)⟩
theorem OX.keep {α : Type} {E : Ek α} {B W : World} {g3 : Nat} {v : Value} {L : List α} (h : OX E B v L) (fr : Rfr g3 B W) (hn : ∀ g, v.ownBlock = some g → g ≠ g3) : OX E W v L := h.of_block fun g hg => fr.block g (h.lt g hg) (hn g hg)
end Go.Proofs.YtofddbjnncgmlaaGreatDoor
