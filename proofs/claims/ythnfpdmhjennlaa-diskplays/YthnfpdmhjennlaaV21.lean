/- The document's files as a list in the order of their names: what they hold. Lists that can be read whatever is done to some blocks; cuts of them, and appends of them. -/
import Derived.Test.YthnfpdmhjennlaaV20
namespace Go.Proofs.Ythnfpdmhjennlaa
open Go.RowKit
open Go.Deep
open Go.Lib
set_option linter.unusedVariables false
theorem ls_inj {a b : ByteArray} (h : ls a = ls b) : a = b := by
  cases a
  cases b
  congr
  exact Array.toList_inj.1 h
/-- What a list of files under a name holds. -/
def gtL (L : List Fi) (k : List UInt8) : Option (List UInt8) := (L.find? fun x => decide (ls x.nm = k)).map fun x => ls x.s
/-- A list of files, in the order of their names, holds just these. -/
structure Rep (L : List Fi) (f : FS) : Prop where
  srt : L.Pairwise fun x y => ls x.nm < ls y.nm
  get : ∀ k, f.get k = gtL L k
  n : f.n = L.length
theorem lt_ne {a b : List UInt8} (h : a < b) : a ≠ b := fun e => by
  subst e
  exact List.lt_irrefl a h
theorem gt_nil (k : List UInt8) : gtL [] k = none := rfl
theorem gt_cons (x : Fi) (L : List Fi) (k : List UInt8) : gtL (x :: L) k = if ls x.nm = k then some (ls x.s) else gtL L k := by
  unfold gtL
  rw [List.find?_cons]
  by_cases h : ls x.nm = k <;> simp [h]
theorem gt_app (A B : List Fi) (k : List UInt8) : gtL (A ++ B) k = (gtL A k).or (gtL B k) := by
  induction A with
  | nil => rfl
  | cons x r ih =>
    rw [List.cons_append, gt_cons, gt_cons, ih]
    by_cases h : ls x.nm = k <;> simp [h]
theorem gt_none {L : List Fi} {k : List UInt8} (h : ∀ x ∈ L, ls x.nm ≠ k) : gtL L k = none := by
  induction L with
  | nil => rfl
  | cons x r ih =>
    rw [gt_cons, if_neg (h x (by simp)), ih fun y hy => h y (by simp [hy])]
theorem gt_no {L : List Fi} {k : List UInt8} (h : gtL L k = none) : ∀ x ∈ L, ls x.nm ≠ k := by
  induction L with
  | nil => intro x hx; simp at hx
  | cons y r ih =>
    intro x hx
    rw [gt_cons] at h
    by_cases e : ls y.nm = k
    · rw [if_pos e] at h; cases h
    · rw [if_neg e] at h
      rcases List.mem_cons.1 hx with rfl | hx
      · exact e
      · exact ih h x hx
theorem Rep.nil : Rep [] FS.none := ⟨List.Pairwise.nil, fun _ => rfl, rfl⟩
theorem gt_wo (L : List Fi) (k : ByteArray) (q : List UInt8) : gtL (woL L k) q = if q = ls k then none else gtL L q := by
  induction L with
  | nil => rw [show woL [] k = [] from rfl, gt_nil]; simp
  | cons x r ih =>
    by_cases e : x.nm = k
    · rw [show woL (x :: r) k = woL r k by simp [woL, e], ih, gt_cons]
      by_cases c : q = ls k
      · rw [if_pos c, if_pos c]
      · rw [if_neg c, if_neg c, if_neg (fun h => c (by rw [← h, e]))]
    · rw [show woL (x :: r) k = x :: woL r k by simp [woL, e], gt_cons, gt_cons, ih]
      by_cases c : q = ls k
      · rw [if_pos c, if_pos c, if_neg (fun h => e (ls_inj (h.trans c)))]
      · rw [if_neg c, if_neg c]
theorem wo_same {L : List Fi} {k : ByteArray} (h : ∀ x ∈ L, x.nm ≠ k) : woL L k = L := List.filter_eq_self.2 fun x hx => by simpa using h x hx
theorem wo_len {L : List Fi} (k : ByteArray) (h : L.Pairwise fun x y => ls x.nm < ls y.nm) : (woL L k).length = if (gtL L (ls k)).isSome then L.length - 1 else L.length := by
  induction L with
  | nil => rfl
  | cons x r ih =>
    obtain ⟨h1, h2⟩ := List.pairwise_cons.1 h
    by_cases e : x.nm = k
    · have hr : ∀ y ∈ r, y.nm ≠ k := fun y hy c => lt_ne (h1 y hy) (by rw [c, e])
      rw [show woL (x :: r) k = woL r k by simp [woL, e], wo_same hr, gt_cons, if_pos (show ls x.nm = ls k by rw [e])]
      simp
    · rw [show woL (x :: r) k = x :: woL r k by simp [woL, e], gt_cons, if_neg (fun c => e (ls_inj c)), List.length_cons, ih h2, List.length_cons]
      by_cases c : (gtL r (ls k)).isSome
      · rw [if_pos c, if_pos c]
        rcases r with _ | ⟨y, r⟩
        · cases c
        · simp
      · rw [if_neg c, if_neg c]
theorem Rep.wo {L : List Fi} {f : FS} (h : Rep L f) (k : ByteArray) : Rep (woL L k) (f.del (ls k)) :=
  ⟨h.srt.filter _, fun q => by
    rw [gt_wo]
    show (if q = ls k then none else f.get q) = _
    rw [h.get], by
    rw [wo_len k h.srt]
    show (if (f.get (ls k)).isSome then f.n - 1 else f.n) = _
    rw [h.get, h.n]⟩
theorem not_lt_eq {a b : List UInt8} (h : ¬ a < b) (e : a ≠ b) : b < a := by
  by_cases c : b < a
  · exact c
  · exact absurd (List.le_antisymm (show a ≤ b from c) (show b ≤ a from h)) e
theorem Rep.ins {L : List Fi} {f : FS} (h : Rep L f) (nm s : ByteArray) (k : Nat) (hk : k ≤ (woL L nm).length) (h1 : ∀ y ∈ (woL L nm).take k, ls y.nm < ls nm) (h2 : ∀ c : k < (woL L nm).length, ¬ ls (woL L nm)[k].nm < ls nm) : Rep ((woL L nm).take k ++ [⟨nm, s⟩] ++ (woL L nm).drop k) (f.put (ls nm) (ls s)) := by
  have hw := h.wo nm
  have hne : ∀ y ∈ woL L nm, ls y.nm ≠ ls nm := fun y hy e => by
    have := (List.mem_filter.1 hy).2
    simp at this
    exact this (ls_inj e)
  have hd : ∀ y ∈ (woL L nm).drop k, ls nm < ls y.nm := fun y hy => by
    by_cases c : k < (woL L nm).length
    · have hs : (woL L nm).drop k = (woL L nm)[k] :: (woL L nm).drop (k + 1) := List.drop_eq_getElem_cons c
      have p := hw.srt.sublist (List.drop_sublist k _)
      rw [hs] at p hy
      obtain ⟨p1, _⟩ := List.pairwise_cons.1 p
      have q := not_lt_eq (h2 c) (hne _ (List.getElem_mem _))
      rcases List.mem_cons.1 hy with rfl | hy
      · exact q
      · exact List.lt_trans q (p1 y hy)
    · rw [List.drop_of_length_le (by omega)] at hy
      cases hy
  refine ⟨?_, fun q => ?_, ?_⟩
  · rw [List.append_assoc]
    refine List.pairwise_append.2 ⟨hw.srt.sublist (List.take_sublist k _), ?_, fun a ha b hb => ?_⟩
    · exact List.pairwise_append.2 ⟨List.pairwise_singleton _ _, hw.srt.sublist (List.drop_sublist k _), fun a ha b hb => by
        rw [List.mem_singleton.1 ha]
        exact hd b hb⟩
    · rcases List.mem_append.1 hb with hb | hb
      · rw [List.mem_singleton.1 hb]
        exact h1 a ha
      · exact List.lt_trans (h1 a ha) (hd b hb)
  · rw [gt_app, gt_app]
    show (if q = ls nm then some (ls s) else f.get q) = _
    have g1 := gt_app ((woL L nm).take k) ((woL L nm).drop k) q
    rw [List.take_append_drop, gt_wo] at g1
    rw [gt_cons, gt_nil]
    show _ = ((gtL _ q).or (if ls nm = q then some (ls s) else none)).or _
    by_cases c : q = ls nm
    · rw [if_pos c, if_pos c.symm, gt_none fun x hx e => lt_ne (h1 x hx) (by rw [e, c])]
      rfl
    · rw [if_neg c, if_neg (fun e => c e.symm), h.get]
      rw [if_neg c] at g1
      rw [g1]
      cases gtL ((woL L nm).take k) q <;> rfl
  · show (if (f.get (ls nm)).isSome then f.n else f.n + 1) = _
    have e1 := wo_len nm h.srt
    have e2 : ((woL L nm).take k ++ [(⟨nm, s⟩ : Fi)] ++ (woL L nm).drop k).length = (woL L nm).length + 1 := by
      simp only [List.length_append, List.length_take, List.length_drop, List.length_singleton]
      omega
    rw [e2, e1, h.get, h.n]
    cases c : gtL L (ls nm) with
    | none => rfl
    | some l =>
      rcases L with _ | ⟨y, r⟩
      · cases c
      · simp
/-- Where a name stands. -/
theorem Rep.find {L : List Fi} {f : FS} (h : Rep L f) (nm : ByteArray) : (f.get (ls nm) = none ∧ fdI L nm = -1) ∨ ∃ i, ∃ hi : i < L.length, fdI L nm = (i : Int) ∧ f.get (ls nm) = some (ls L[i].s) := by
  rw [h.get]
  unfold fdI
  cases e : L.findIdx? (fun x => decide (x.nm = nm)) with
  | none =>
    refine .inl ⟨gt_none fun x hx c => ?_, rfl⟩
    have := List.findIdx?_eq_none_iff.1 e x hx
    simp at this
    exact this (ls_inj c)
  | some i =>
    obtain ⟨hi, h1, h2⟩ := List.findIdx?_eq_some_iff_getElem.1 e
    refine .inr ⟨i, hi, rfl, ?_⟩
    have hs : L = L.take i ++ (L[i] :: L.drop (i + 1)) := by
      rw [← List.drop_eq_getElem_cons hi, List.take_append_drop]
    have g := gt_app (L.take i) (L[i] :: L.drop (i + 1)) (ls nm)
    rw [← hs, gt_cons, if_pos (by simp at h1; rw [h1])] at g
    rw [g, gt_none fun x hx c => ?_]
    · rfl
    · rw [List.mem_take_iff_getElem] at hx
      obtain ⟨j, hj, rfl⟩ := hx
      have := h2 j (by omega)
      simp at this
      exact this (ls_inj c)
theorem Rep.at_ {L : List Fi} {f : FS} (h : Rep L f) {i : Nat} (hi : i < L.length) : f.get (ls L[i].nm) = some (ls L[i].s) := by
  rw [h.get]
  have hs : L = L.take i ++ (L[i] :: L.drop (i + 1)) := by
    rw [← List.drop_eq_getElem_cons hi, List.take_append_drop]
  have g := gt_app (L.take i) (L[i] :: L.drop (i + 1)) (ls L[i].nm)
  rw [← hs, gt_cons, if_pos rfl] at g
  have p := h.srt
  rw [hs] at p
  have p2 := (List.pairwise_append.1 p).2.2
  rw [g, gt_none fun x hx c => lt_ne (p2 x hx L[i] List.mem_cons_self) c]
  rfl
/-- Names in order are those of the list. -/
theorem Rep.names {L : List Fi} {f : FS} (h : Rep L f) {ks : List (List UInt8)} (hn : Nms f ks) : ks.mergeSort (fun x y => decide (x ≤ y)) = L.map fun x => ls x.nm := by
  have hp : (L.map fun x => ls x.nm).Pairwise (· < ·) := List.pairwise_map.2 h.srt
  have hnd : (L.map fun x => ls x.nm).Nodup := hp.imp fun h => lt_ne h
  have hperm : ks.Perm (L.map fun x => ls x.nm) := by
    refine (List.perm_ext_iff_of_nodup hn.nd hnd).2 fun k => ?_
    rw [hn.mem, h.get, List.mem_map]
    constructor
    · intro hk
      cases e : L.find? fun x => decide (ls x.nm = k) with
      | none => rw [gtL, e] at hk; cases hk
      | some x => exact ⟨x, List.mem_of_find?_eq_some e, by simpa using List.find?_some e⟩
    · rintro ⟨x, hx, rfl⟩
      cases e : gtL L (ls x.nm) with
      | none => exact absurd rfl (gt_no e x hx)
      | some l => rfl
  have hs := List.pairwise_mergeSort (le := fun x y : List UInt8 => decide (x ≤ y)) (fun a b c h1 h2 => by
    simp only [decide_eq_true_eq] at *
    exact List.le_trans h1 h2) (fun a b => by
    simp only [Bool.or_eq_true, decide_eq_true_eq]
    exact List.le_total a b) ks
  refine List.Perm.eq_of_pairwise (le := fun a b : List UInt8 => decide (a ≤ b) = true) (fun a b _ _ h1 h2 => ?_) hs (hp.imp fun h => ?_) ((List.mergeSort_perm ks _).trans hperm)
  · simp only [decide_eq_true_eq] at h1 h2
    exact List.le_antisymm h1 h2
  · simp only [decide_eq_true_eq]
    exact List.le_of_lt h
end Go.Proofs.Ythnfpdmhjennlaa
namespace Go.Proofs.Ythnfpdmhjennlaa
open Go.RowKit
open Go.Deep
open Go.Lib
set_option linter.unusedVariables false
/-- w' has what w has, but for blocks of K. -/
def Ag (K : Nat → Prop) (w w' : World) : Prop := w.heap.size ≤ w'.heap.size ∧ ∀ k, k < w.heap.size → ¬ K k → w'.heap[k]? = w.heap[k]?
/-- A list that can be read whatever is done to the blocks of K. -/
def LXK {α : Type} (E : Ek α) (K : Nat → Prop) (w : World) (v : Value) (L : List α) : Prop := ∀ w', Ag K w w' → LX E w' v L
section
variable {α : Type} {E : Ek α} {K K' T : Nat → Prop} {w w' : World} {v : Value} {L : List α}
theorem Ag.refl (K : Nat → Prop) (w : World) : Ag K w w := ⟨Nat.le_refl _, fun _ _ _ => rfl⟩
theorem LXK.now (h : LXK E K w v L) : LX E w v L := h w (Ag.refl K w)
theorem LXK.below (h : LXK E K w v L) (hb : Below w.heap.size w w') : LXK E K w' v L := fun w2 a => h w2 ⟨Nat.le_trans hb.size a.1, fun k hk hn => (a.2 k (Nat.lt_of_lt_of_le hk hb.size) hn).trans (hb.block k hk)⟩
theorem LXK.fr (h : LXK E T w v L) (f : Fr T w w') : LXK E (grow T w w') w' v L := fun w2 a => h w2 ⟨Nat.le_trans f.size a.1, fun k hk hn => (a.2 k (Nat.lt_of_lt_of_le hk f.size) (fun e => by
  rcases e with e | ⟨e, _⟩
  · exact hn e
  · omega)).trans (f.block k hk hn)⟩
theorem LXK.mono (h : LXK E K w v L) (hs : ∀ g, K' g → K g) : LXK E K' w v L := fun w2 a => h w2 ⟨a.1, fun k hk hn => a.2 k hk fun e => hn (hs k e)⟩
theorem LXK.of_ox (h : OX E w v L) (hg : ∀ g, v.ownBlock = some g → ¬ K g) : LXK E K w v L := fun w2 a => (h.of_block fun g e => a.2 g (h.lt g e) (hg g e)).read
theorem LXK.nil (w : World) : LXK E K w (.slice none 0 0) [] := fun w2 _ => LX.nil w2
theorem LXK.form (h : LXK E K w v L) : ∃ ao c, v = .slice ao L.length c := h.now.form
end
section
variable {α : Type} (E : Ek α) {w w' : World} {v x : Value} {L N : List α}
theorem Ek.sizeE (W : World) : (sizeOf E.e).run Try.prog W = .ok E.k W := by
  obtain ⟨i, z, hi, _, _, hs, _⟩ := E.parts
  simp [sizeOf, typeInfo, hi, hs, Result.andThen]
/-- The beginning of a list. -/
theorem Ek.cutF (ao : Option Addr) (n c k : Nat) (hk : k ≤ n) (hc : n ≤ c) (W : World) : (Instr.sliceAt E.t (.slice ao n c) none (some (.int .i64 (k : Int))) none).run Try.prog W = .ok (.slice ao k c) W := by
  have h1 := E.sizeE W
  have hi : k ≤ c := by omega
  have ha : ∀ a : Addr, a.add 0 = a := fun a => by cases a; unfold Addr.add; split <;> simp_all
  cases ao <;> simp [Instr.sliceAt, Instr.slice, run_underlying E.sl, Instr.sliceBounds, Instr.sliceBound, asIntOf, hi, Result.andThen, h1, ha]
theorem LX.takeL {ao : Option Addr} {n c k : Nat} (h : LX E w (.slice ao n c) L) (hk : k ≤ n) : LX E w (.slice ao k c) (L.take k) := by
  obtain ⟨ao', c', e, h2, h3⟩ := h
  cases e
  refine ⟨ao, c, by rw [List.length_take, Nat.min_eq_left hk], by rw [List.length_take]; omega, fun i hi => ?_⟩
  rw [List.length_take] at hi
  obtain ⟨g, off, e1, hg, hr⟩ := h3 i (by omega)
  exact ⟨g, off, e1, hg, by rw [List.getElem_take]; exact hr⟩
/-- What is behind it. -/
theorem Ek.cutB (ao : Option Addr) (n c k : Nat) (hk : k ≤ n) (hc : n ≤ c) : ∃ ao', (∀ W, (Instr.sliceAt E.t (.slice ao n c) (some (.int .i64 (k : Int))) none none).run Try.prog W = .ok (.slice ao' (n - k) (c - k)) W) ∧ ∀ (W : World) (L : List α), LX E W (.slice ao n c) L → LX E W (.slice ao' (n - k) (c - k)) (L.drop k) := by
  have h1 := E.sizeE
  refine ⟨if c = k then ao else ao.map (·.add (k * E.k)), fun W => ?_, fun W L h => ?_⟩
  · simp [Instr.sliceAt, Instr.slice, run_underlying E.sl, Instr.sliceBounds, Instr.sliceBound, asIntOf, hk, Result.andThen, h1]
  · obtain ⟨ao', c', e, h2, h3⟩ := h
    cases e
    refine ⟨_, _, by rw [List.length_drop], by rw [List.length_drop]; omega, fun i hi => ?_⟩
    rw [List.length_drop] at hi
    obtain ⟨g, off, e1, hg, hr⟩ := h3 (k + i) (by omega)
    subst e1
    rw [if_neg (by omega)]
    refine ⟨g, off + k * E.k, ?_, hg, ?_⟩
    · show some ((⟨g, off, none⟩ : Addr).add (k * E.k)) = _
      have hadd : (⟨g, off, none⟩ : Addr).add (k * E.k) = ⟨g, off + k * E.k, none⟩ := by unfold Addr.add; split <;> simp_all
      rw [hadd]
    · rw [List.getElem_drop]
      rw [show off + k * E.k + i * E.k = off + (k + i) * E.k by rw [Nat.add_mul]; omega]
      exact hr
/-- An append of a list that can be read. -/
theorem Ek.appL {ty : TypeId} (hown : OX E w v L) (hx : LX E w x N) (hsm : (L.length + N.length) * E.b ≤ 140737488355328) (h63 : L.length + N.length ≤ maxLen) :
    ∃ v' w', (Builtin.append_ #[E.t, E.t] ty #[v, x]).run Try.prog w = .ok v' w' ∧ OX E w' v' (L ++ N) ∧ Onto w w' v v' := by
  obtain ⟨ao, c, rfl⟩ := hx.form
  cases ao with
  | some ad => exact E.app hown ad N.length c N rfl hx.news hsm h63
  | none =>
    have hN : N = [] := by
      rcases Nat.eq_zero_or_pos N.length with h | h
      · exact List.eq_nil_of_length_eq_zero h
      · obtain ⟨_, _, e⟩ := hx.base h
        cases e
    subst hN
    refine ⟨v, w, ?_, by rw [List.append_nil]; exact hown, Onto.refl w v⟩
    obtain ⟨bo, m, rfl⟩ := hown.form
    have hm : L.length ≤ m := by
      obtain ⟨_, _, e, h2, _⟩ := hown.read
      cases e
      exact h2
    have h1 := E.sizeE w
    have hst : ∀ a : Addr, (storeCells a []).run Try.prog w = .ok () w := fun a => by simp [storeCells]
    cases bo <;> simp [Builtin.append_, run_underlying E.sl, h1, Builtin.lenOf, Builtin.firstCells, hm, Result.andThen, hst]
end
section
variable {α : Type} {w : World} {ops : Array Oper} {rest : List Oper} {o : Oper} {a : Act} {Q : Exit → Act → World → Prop}
theorem Ek.wpAppL (E : Ek α) (hgd : o.guard = none) (x y : Operand)
    (ho : o.op = .call { callee := .builtin .append, args := #[x, y], argTypes := #[E.t, E.t] })
    (v : Value) (L : List α) (hx : a.eval x = v) (hown : OX E w v L) (u : Value) (N : List α) (hy : a.eval y = u) (hu : LX E w u N) (hsm : (L.length + N.length) * E.b ≤ 140737488355328) (h63 : L.length + N.length ≤ maxLen)
    (h : ∀ v' w', OX E w' v' (L ++ N) → Onto w w' v v' → wpList Try.prog ops Q rest (a.put o.dst v') w') :
    wpList Try.prog ops Q (o :: rest) a w := by
  refine wpList_plain hgd fun K hK => ?_
  obtain ⟨v', w', hr, h2, h3⟩ := E.appL (ty := o.type) hown hu hsm h63
  unfold Oper.wp execOp
  simp only [ho, resolve, invoke, builtin, Sem.run_bind, Sem.run_pure, Result.andThen_ok, List.map_toArray, List.map_cons, List.map_nil, hx, hy, hr]
  exact hK _ _ (h v' w' h2 h3)
end
section
variable {α : Type} {w w' : World} {ops : Array Oper} {o : Oper} {a : Act} {K : Act → World → Prop} {Q : Exit → Act → World → Prop} {E0 : Prop}
theorem Ek.stepBs0 (E : Ek α) (hgd : o.guard = none) (ho : o.op = .buildSlice E.t 0 #[]) (hb : (Instr.buildSlice E.t 0 #[]).run Try.prog w = .ok (.slice (some ⟨w.heap.size, 0, none⟩) 0 0) (w.alloc (.cells #[] E.e)))
    (h : K (a.put o.dst (.slice (some ⟨w.heap.size, 0, none⟩) 0 0)) (w.alloc (.cells #[] E.e))) : if Region.wanted o (yielded ops a.tmps) = true then Oper.wp Try.prog o a w K Q else E0 := by
  have hw : Region.wanted o (yielded ops a.tmps) = true := by simp [Region.wanted, hgd]
  rw [if_pos hw]
  unfold Oper.wp execOp
  simp only [ho, List.map_toArray, List.map_nil, hb, Sem.run_bind, Result.andThen_ok, Sem.run_pure]
  exact h
theorem Ek.stepBs1 (E : Ek α) (hgd : o.guard = none) (x : Operand) (ho : o.op = .buildSlice E.t 1 #[(0, x)]) (h : α) (hx : a.eval x = .agg (E.enc h).toArray)
    (hk : K (a.put o.dst (.slice (some ⟨w.heap.size, 0, none⟩) 1 1)) (w.alloc (.cells (E.enc h).toArray E.e))) : if Region.wanted o (yielded ops a.tmps) = true then Oper.wp Try.prog o a w K Q else E0 := by
  have hw : Region.wanted o (yielded ops a.tmps) = true := by simp [Region.wanted, hgd]
  rw [if_pos hw]
  unfold Oper.wp execOp
  simp only [ho, List.map_toArray, List.map_cons, List.map_nil, hx, E.bs1 w h, Sem.run_bind, Result.andThen_ok, Sem.run_pure]
  exact hk
theorem Ek.stepAppL (E : Ek α) (hgd : o.guard = none) (s x : Operand)
    (ho : o.op = .call { callee := .builtin .append, args := #[s, x], argTypes := #[E.t, E.t] })
    (v : Value) (L : List α) (hs : a.eval s = v) (hown : OX E w v L) (u : Value) (N : List α) (hx : a.eval x = u) (hu : LX E w u N) (hsm : (L.length + N.length) * E.b ≤ 140737488355328) (h63 : L.length + N.length ≤ maxLen)
    (h : ∀ v' w', OX E w' v' (L ++ N) → Onto w w' v v' → K (a.put o.dst v') w') : if Region.wanted o (yielded ops a.tmps) = true then Oper.wp Try.prog o a w K Q else E0 := by
  have hw : Region.wanted o (yielded ops a.tmps) = true := by simp [Region.wanted, hgd]
  rw [if_pos hw]
  obtain ⟨v', w', hr, h2, h3⟩ := E.appL (ty := o.type) hown hu hsm h63
  unfold Oper.wp execOp
  simp only [ho, resolve, invoke, builtin, Sem.run_bind, Sem.run_pure, Result.andThen_ok, List.map_toArray, List.map_cons, List.map_nil, hs, hx, hr]
  exact h v' w' h2 h3
end
section
variable {α : Type} {E : Ek α} {w0 w W : World} {u v v' : Value} {L N : List α} {x : α}
theorem Lw.empty (hb : Below w0.heap.size w0 W) : Lw E w0 (W.alloc (.cells #[] E.e)) (.slice (some ⟨W.heap.size, 0, none⟩) 0 0) [] :=
  ⟨World.ownsRow_made W #[] 0 (Nat.zero_le _) (Nat.zero_le _) (by simp), fun g hg => by cases hg; exact hb.size, hb.alloc hb.size _⟩
theorem Lw.oneE (hb : Below w0.heap.size w0 W) : Lw E w0 (W.alloc (.cells (E.enc x).toArray E.e)) (.slice (some ⟨W.heap.size, 0, none⟩) 1 1) [x] := by
  refine ⟨?_, fun g hg => by cases hg; exact hb.size, hb.alloc hb.size _⟩
  refine ⟨by rw [flatE_len], .inr ⟨W.heap.size, 1, (E.enc x).toArray, rfl, Nat.zero_le _, heap_alloc_last W _, Nat.le_refl _, by unfold maxLen; omega, by simp [E.len], ?_⟩⟩
  rw [flatE_one]
  exact List.take_of_length_le (by simp [E.len])
/-- Two lists under way, in blocks of their own. -/
structure Lw2 (E : Ek α) (w0 W : World) (v : Value) (L : List α) (u : Value) (N : List α) : Prop where
  a : Lw E w0 W v L
  b : Lw E w0 W u N
  ne : ∀ g, v.ownBlock = some g → u.ownBlock ≠ some g
theorem Lw2.first (h : Lw E w0 W v L) : Lw2 E w0 (W.alloc (.cells (E.enc x).toArray E.e)) v L (.slice (some ⟨W.heap.size, 0, none⟩) 1 1) [x] :=
  ⟨h.next ((Below.refl _ _).alloc (Nat.le_refl _) _), Lw.oneE h.bel, fun g hg e => by
    have h1 := h.ox.lt g hg
    have h2 : W.heap.size = g := Option.some.inj e
    omega⟩
theorem Lw2.second (h : Lw E w0 W u N) : Lw2 E w0 (W.alloc (.cells #[] E.e)) (.slice (some ⟨W.heap.size, 0, none⟩) 0 0) [] u N :=
  ⟨Lw.empty h.bel, h.next ((Below.refl _ _).alloc (Nat.le_refl _) _), fun g hg e => by
    have h1 := h.ox.lt g e
    have h2 : W.heap.size = g := Option.some.inj hg
    omega⟩
theorem Lw2.app {W' : World} {L' : List α} (h : Lw2 E w0 W v L u N) (o : OX E W' v' L') (on : Onto W W' v v') : Lw2 E w0 W' v' L' u N := by
  have g := on.grown
  have hu : ∀ k, u.ownBlock = some k → W'.heap[k]? = W.heap[k]? := fun k hk => g.block k (h.b.ox.lt k hk) (fun e => h.ne k e.symm hk)
  refine ⟨h.a.app o on, ⟨h.b.ox.of_block hu, h.b.far, (h.a.app o on).bel⟩, fun k hk e => ?_⟩
  rcases on.lies with e1 | ⟨b, e1, hb⟩
  · exact h.ne k (by rw [← e1]; exact hk) e
  · rw [e1] at hk
    cases hk
    have := h.b.ox.lt _ e
    omega
end
theorem Lw.lxk {α : Type} {E : Ek α} {w0 W : World} {v : Value} {L : List α} {K : Nat → Prop} (h : Lw E w0 W v L) (hK : ∀ g, K g → g < w0.heap.size) : LXK E K W v L := LXK.of_ox h.ox fun g hg c => by
  have := h.far g hg
  have := hK g c
  omega
end Go.Proofs.Ythnfpdmhjennlaa
