/- Lists of lists, whatever these are; the contract of the document's levels. The contract of the document's levels. The contract of meantLevels. All levels: a list of lists of ids, and the contract of Levels. What tell holds: the teller's cells, the bits and ids that were told; an append of a bit. The contract of the document's Branch. The contracts of Check and of the document's Check. A region that draws its order, walked by hand: what yields, and the steps. -/
import Derived.Test.YthlaibkdcebekaaDoorNx1
namespace Go.Proofs.YthlaibkdcebekaaDoor
open Go.RowKit
open Go.Deep
/-- A type of lists, and the type of a list of such. -/
structure TE (t te : TypeId) : Prop where
  sl : Tryd.prog.underlying t = some (.slice te)
  inf : (Tryd.prog.info? te).map (fun i => (i.zero.map (·.cells.size), i.size, i.bytes)) = some (some 1, 1, 24)
theorem TL : TE 54 22 := ⟨Tryd.underlying54, by kernel_rfl⟩
theorem TR : TE 61 31 := ⟨Tryd.underlying61, by kernel_rfl⟩
theorem TB : TE 56 23 := ⟨Tryd.underlying56, by kernel_rfl⟩
theorem TE.parts {t te : TypeId} (T : TE t te) : ∃ i z, Tryd.prog.info? te = some i ∧ i.zero = some z ∧ z.cells.size = 1 ∧ i.size = 1 ∧ i.bytes = 24 := by
  have h := T.inf
  cases hi : Tryd.prog.info? te with
  | none => rw [hi] at h; cases h
  | some i =>
    rw [hi] at h
    simp only [Option.map_some, Option.some.injEq, Prod.mk.injEq] at h
    obtain ⟨h1, h2, h3⟩ := h
    cases hz : i.zero with
    | none => rw [hz] at h1; cases h1
    | some z =>
      rw [hz] at h1
      exact ⟨i, z, rfl, hz, by simpa using h1, h2, h3⟩
/-- What is said of an element holds on where its block is as it was. -/
def Kp (P : Nat → World → Value → Prop) : Prop := ∀ i W W' x, P i W x → (∀ g, x.ownBlock = some g → W'.heap[g]? = W.heap[g]?) → W.heap.size ≤ W'.heap.size → P i W' x
/-- A list of lists of the program's own. -/
structure Rw (te : TypeId) (P : Nat → World → Value → Prop) (w W : World) (v : Value) (vs : List Value) : Prop where
  row : W.ownsRow 0 te 1 v vs.length vs
  bel : Below w.heap.size w W
  far : ∀ g, v.ownBlock = some g → w.heap.size ≤ g
  el : ∀ i x, vs[i]? = some x → P i W x ∧ ∀ g, x.ownBlock = some g → g < W.heap.size ∧ v.ownBlock ≠ some g
section
variable {t te : TypeId} {P : Nat → World → Value → Prop} {w W W' : World} {v v' x : Value} {vs : List Value}
theorem row_blockG {n : Nat} {xs : List Value} (h : W.ownsRow 0 te 1 v n xs) (hb : ∀ g, v.ownBlock = some g → W'.heap[g]? = W.heap[g]?) : W'.ownsRow 0 te 1 v n xs := by
  obtain ⟨h2, h3⟩ := h
  refine ⟨h2, ?_⟩
  rcases h3 with ⟨rfl, h0⟩ | ⟨g, cap, cur, rfl, h4, hg, h5⟩
  · exact .inl ⟨rfl, h0⟩
  · exact .inr ⟨g, cap, cur, rfl, h4, (hb g rfl).trans hg, h5⟩
theorem Rw.next (K : Kp P) (j : Rw te P w W v vs) (h : Below W.heap.size W W') : Rw te P w W' v vs :=
  ⟨row_blockG j.row fun g hg => h.block _ (j.row.lt g hg).2, below_next j.bel h, j.far, fun i x hx =>
    ⟨K i W W' x (j.el i x hx).1 (fun g hg => h.block _ ((j.el i x hx).2 g hg).1) h.size, fun g hg => ⟨Nat.lt_of_lt_of_le ((j.el i x hx).2 g hg).1 h.size, ((j.el i x hx).2 g hg).2⟩⟩⟩
theorem Rw.onto (K : Kp P) (j : Rw te P w W v vs) (hgr : W.grownBy W' v.ownBlock) (hv : v'.ownBlock = v.ownBlock ∨ v'.ownBlock = some W.heap.size) (hr : W'.ownsRow 0 te 1 v' (vs.length + 1) (vs ++ [x])) (hx : P vs.length W x) (hxa : ∀ g, x.ownBlock = some g → g < W.heap.size ∧ v.ownBlock ≠ some g) : Rw te P w W' v' (vs ++ [x]) := by
  have o : Onto W W' v v' := ⟨hgr, hv.elim .inl fun h => .inr ⟨_, h, Nat.le_refl _⟩⟩
  have kp : ∀ i y, P i W y → (∀ g, y.ownBlock = some g → g < W.heap.size ∧ v.ownBlock ≠ some g) → P i W' y ∧ ∀ g, y.ownBlock = some g → g < W'.heap.size ∧ v'.ownBlock ≠ some g := fun i y hy ha =>
    ⟨K i W W' y hy (fun g hg => hgr.block g (ha g hg).1 (fun e => (ha g hg).2 e.symm)) hgr.size, fun g hg => ⟨Nat.lt_of_lt_of_le (ha g hg).1 hgr.size, fun e => by
      rcases hv with h | h
      · exact (ha g hg).2 (h.symm.trans e)
      · rw [h] at e
        have := (ha g hg).1
        injection e with e
        omega⟩⟩
  refine ⟨by simpa using hr, j.bel.trans (o.below j.bel.size j.far), o.far j.bel.size j.far, fun i y hy => ?_⟩
  rcases Nat.lt_or_ge i vs.length with hi | hi
  · rw [List.getElem?_append_left hi] at hy
    exact kp _ _ (j.el i y hy).1 (j.el i y hy).2
  · rw [List.getElem?_append_right hi] at hy
    have h0 : i - vs.length = 0 := by
      have := (List.getElem?_eq_some_iff.1 hy).1
      simp at this
      omega
    rw [h0] at hy
    cases hy
    rw [show i = vs.length by omega]
    exact kp _ _ hx hxa
theorem Rw.new (K : Kp P) {W0 : World} (b : Below w.heap.size w W0) (hx : P 0 W0 x) (hxa : ∀ g, x.ownBlock = some g → g < W0.heap.size) : Rw te P w (W0.alloc (.cells #[x] te)) (.slice (some ⟨W0.heap.size, 0, none⟩) 1 1) [x] :=
  ⟨⟨rfl, .inr ⟨W0.heap.size, 1, #[x], rfl, Nat.zero_le _, heap_alloc_last _ _, Nat.le_refl _, by unfold maxLen; omega, rfl, rfl⟩⟩, b.alloc b.size _, fun g hg => by cases hg; exact b.size, fun i y hy => by
    rcases i with _ | i
    · cases hy
      have hb : Below W0.heap.size W0 (W0.alloc (.cells #[x] te)) := (Below.refl _ _).alloc (Nat.le_refl _) _
      exact ⟨K 0 W0 _ x hx (fun g hg => hb.block _ (hxa g hg)) hb.size, fun g hg => ⟨Nat.lt_of_lt_of_le (hxa g hg) hb.size, fun e => by cases e; exact Nat.lt_irrefl _ (hxa _ hg)⟩⟩
    · simp at hy⟩
theorem Rw.cell (j : Rw te P w W v vs) {g : Nat} (hg : v.ownBlock = some g) {i : Nat} (hx : vs[i]? = some x) : W.cell? ⟨g, i, none⟩ = some x := by
  have := j.row.cells hg i x hx
  have hadd : (⟨g, 0, none⟩ : Addr).add i = ⟨g, i, none⟩ := by unfold Addr.add; split <;> simp_all
  rw [hadd] at this
  exact this
theorem Rw.form (j : Rw te P w W v vs) (h0 : 0 < vs.length) : ∃ g cap, v = .slice (some ⟨g, 0, none⟩) vs.length cap ∧ vs.length ≤ cap := by
  rcases j.row.2 with ⟨_, h⟩ | ⟨g, cap, cur, rfl, _, _, h5, _⟩
  · omega
  · exact ⟨g, cap, rfl, h5⟩
theorem TE.app (T : TE t te) (K : Kp P) (j : Rw te P w W v vs) {ty : TypeId} (ad : Addr) (h1 : x.oneCell' = true) (hc1 : W.cell? ad = some x) (hx : P vs.length W x) (hxa : ∀ g, x.ownBlock = some g → g < W.heap.size ∧ v.ownBlock ≠ some g) (hn : vs.length ≤ 1000) :
    ∃ v' W', (Builtin.append_ #[t, t] ty #[v, .slice (some ad) 1 1]).run Tryd.prog W = .ok v' W' ∧ Rw te P w W' v' (vs ++ [x]) := by
  obtain ⟨i0, z, hi, hz0, hzs, hz1, hz2⟩ := T.parts
  obtain ⟨v', w', hr, h2, h3, _, h5⟩ := run_append_own_at (P := Tryd.prog) W 0 t ty te i0 z 1 24 T.sl hi hz0 hz1 hz2 hzs (by decide) v vs.length vs j.row ad 1 1 [x] rfl
    (fun k u hu => by
      rcases k with _ | k
      · cases hu
        rw [show ad.add 0 = ad by unfold Addr.add; split <;> simp_all]
        exact hc1
      · simp at hu)
    (fun u hu => by simp at hu; rw [hu]; exact h1) (by unfold maxLen; omega) (by omega) (Nat.zero_le _)
  exact ⟨v', w', hr, j.onto K h3 h5 h2 hx hxa⟩
end
section
variable {t te : TypeId} {P : Nat → World → Value → Prop} {w W : World} {ops : Array Oper} {rest : List Oper} {o : Oper} {a : Act} {Q : Exit → Act → World → Prop} {v : Value} {vs : List Value}
theorem TE.wpApp (T : TE t te) (K : Kp P) (hgd : o.guard = none) (s y : Operand)
    (ho : o.op = .call { callee := .builtin .append, args := #[s, y], argTypes := #[t, t] })
    (hs : a.eval s = v) (j : Rw te P w W v vs) (ad : Addr) (hy : a.eval y = .slice (some ad) 1 1) (x : Value) (h1 : x.oneCell' = true) (hc1 : W.cell? ad = some x) (hx : P vs.length W x) (hxa : ∀ g, x.ownBlock = some g → g < W.heap.size ∧ v.ownBlock ≠ some g) (hn : vs.length ≤ 1000)
    (h : ∀ v' W', Rw te P w W' v' (vs ++ [x]) → wpList Tryd.prog ops Q rest (a.put o.dst v') W') :
    wpList Tryd.prog ops Q (o :: rest) a W := by
  refine wpList_plain hgd fun K0 hK => ?_
  obtain ⟨v', w', hr, h2⟩ := T.app (ty := o.type) K j ad h1 hc1 hx hxa hn
  unfold Oper.wp execOp
  simp only [ho, resolve, invoke, builtin, Sem.run_bind, Sem.run_pure, Result.andThen_ok, List.map_toArray, List.map_cons, List.map_nil, hs, hy, hr]
  exact hK _ _ (h v' w' h2)
end
end Go.Proofs.YthlaibkdcebekaaDoor
namespace Go.Proofs.YthlaibkdcebekaaDoor
open Go.RowKit
open Go.Deep
/-- The levels of a list of ids, as elements. -/
def PL (L : List (List UInt8)) (i : Nat) (W : World) (x : Value) : Prop := LH W x (lv L i)
theorem PL.kp (L : List (List UInt8)) : Kp (PL L) := fun i W W' x h hb hs => by
  obtain ⟨h1, ao, cap, rfl, h2, h3⟩ := h
  refine ⟨h1, ao, cap, rfl, h2, fun j hj => ?_⟩
  obtain ⟨g, off, rfl, hg, hr⟩ := h3 j hj
  exact ⟨g, off, rfl, Nat.lt_of_lt_of_le hg hs, range_block hr (hb g rfl)⟩
section
set_option maxRecDepth 10000
set_option maxHeartbeats 4000000
theorem rlevels_any (v : Value) (L : List (List UInt8)) (w : World) (hL : LH w v L) (h0 : 0 < L.length) (hn : L.length < 4294967296) : Calls Tryd.prog 22 #[v] w fun e w' => ∃ v', e = .returned v' ∧ ∃ vs, Rw 31 (PL L) w w' v' vs ∧ vs.length = dp L.length + 1 := by
  have hlt0 := hL.lt h0
  have J0 := hide (Rw.new (te := 31) (PL.kp L) (Below.refl w.heap.size w) (show PL L 0 w v from hL) hlt0)
  obtain ⟨ao, cap, rfl⟩ := hL.form
  have HN := hide (And.intro h0 hn)
  clear hL h0 hn hlt0
  go_enter Tryd.func22, Tryd.ntmps22
  go_wp2
  generalize w.alloc (.cells #[.slice ao L.length cap] 31) = W0 at *
  go_loopw [0, 3] (fun s0 s3 wr => ∃ (k : Nat) (vs : List Value), vs.length = k + 1 ∧ vs[k]? = some s0 ∧ Hid (Rw 31 (PL L) w wr s3 vs) ∧ Hid (dp (lv L k).length + k = dp L.length)) (fun s0 _ _ => lenV2 s0)
  case atStart => exact ⟨0, _, rfl, rfl, J0, by rfl⟩
  case round =>
    clear J0
    obtain ⟨k, vs, hvs, hv4, J, HD⟩ := hrel
    have HV := hide (And.intro hvs hv4)
    have O4 : Hid (LH wr u0 (lv L k)) := (J.out.el k _ hv4).1
    clear hvs hv4
    obtain ⟨ao4, cap4, rfl⟩ := O4.out.form
    have hle := lv_le L k
    have hpos := lv_pos L HN.out.1 k
    have hn := HN.out.2
    by_cases hlt : 1 < (lv L k).length
    · have h1 : (1 : Int) < ((lv L k).length : Int) := by omega
      have HD2 : Hid (dp (lv L (k + 1)).length + (k + 1) = dp L.length) := by
        show _ = _
        rw [← HD.out, dp_step _ hlt, lv, nxt_len]
        omega
      have HA := hide fun W hW => rnext_any (.slice ao4 (lv L k).length cap4) (lv L k) W hW (by omega)
      rw [show nxt (lv L k) = lv L (k + 1) from rfl] at HA
      have ME := hide (show (lv L (k + 1)).length < (lv L k).length by rw [lv, nxt_len]; omega)
      have HP2 := hide (lv_pos L HN.out.1 (k + 1))
      have SZ : Hid (vs.length ≤ 1000) := by
        show _ ≤ _
        have := HV.out.1
        have := HD.out
        have := dp_le L.length hn
        omega
      clear hlt hle hpos hn
      go_upto_region 4 with (first | (go_at_call 35; refine (HA.out _ O4.out).mono ?_; rintro e w2 ⟨v2, rfl, o2⟩; obtain ⟨ao2, c2, rfl⟩ := o2.own.form; have J2 := hide (J.out.next (PL.kp L) o2.bel); have F2 := hide o2.far; have O2 := hide o2.own; clear o2))
      have NB : Hid (∀ g, (Value.slice ao2 (lv L (k + 1)).length c2).ownBlock = some g → g < w2.heap.size ∧ u3.ownBlock ≠ some g) := fun g hg => ⟨O2.out.lt g hg, fun e => by
        have h1 := F2.out g hg
        have h2 := (J.out.row.lt g e).2
        omega⟩
      have J3 := hide (J2.out.next (PL.kp L) ((Below.refl _ _).alloc (Nat.le_refl _) (.cells #[.slice ao2 (lv L (k + 1)).length c2] 31)))
      have O3 : Hid (PL L vs.length (w2.alloc (.cells #[.slice ao2 (lv L (k + 1)).length c2] 31)) (.slice ao2 (lv L (k + 1)).length c2)) := by
        show LH _ _ _
        rw [HV.out.1]
        exact (O2.out.alloc _).read
      have NB3 : Hid (∀ g, (Value.slice ao2 (lv L (k + 1)).length c2).ownBlock = some g → g < (w2.alloc (.cells #[.slice ao2 (lv L (k + 1)).length c2] 31)).heap.size ∧ u3.ownBlock ≠ some g) := fun g hg => ⟨Nat.lt_of_lt_of_le (NB.out g hg).1 (by simp), (NB.out g hg).2⟩
      have C3 : Hid ((w2.alloc (.cells #[.slice ao2 (lv L (k + 1)).length c2] 31)).cell? ⟨w2.heap.size, 0, none⟩ = some (.slice ao2 (lv L (k + 1)).length c2)) := by
        show _ = _
        rw [cell_of_row _ _ _ _ _ _ (heap_alloc_last w2 _)]
        rfl
      clear NB F2
      go_wp2_with (first | (at_builtin; refine TE.wpApp TR (PL.kp L) rfl _ _ rfl rfl J3.out ⟨w2.heap.size, 0, none⟩ rfl (.slice ao2 (lv L (k + 1)).length c2) rfl C3.out O3.out NB3.out SZ.out ?_; intro v5 w5 j5; have J5 := hide j5; clear j5))
      exact ⟨⟨k + 1, vs ++ [.slice ao2 (lv L (k + 1)).length c2], by simp [HV.out.1], by rw [← HV.out.1]; simp, J5, HD2⟩, by simpa [lenV2] using ME.out⟩
    · have h1 : ¬ (1 : Int) < ((lv L k).length : Int) := by omega
      have hl1 : (lv L k).length = 1 := by omega
      have HK : Hid (vs.length = dp L.length + 1) := by
        show _ = _
        have := HD.out
        rw [hl1, dp_low 1 (by omega)] at this
        have := HV.out.1
        omega
      clear hlt hle hn hl1 hpos
      go_wp2
      go_ret
      exact ⟨_, rfl, vs, J.out, HK.out⟩
end
end Go.Proofs.YthlaibkdcebekaaDoor
namespace Go.Proofs.YthlaibkdcebekaaDoor
open Go.RowKit
open Go.Deep
/-- The levels of marks, as elements. -/
def PM (ms : List Bool) (i : Nat) (W : World) (x : Value) : Prop := LB W x (mv ms i)
theorem PM.kp (ms : List Bool) : Kp (PM ms) := fun i W W' x h hb hs => by
  obtain ⟨ao, cap, rfl, h2, h3⟩ := h
  refine ⟨ao, cap, rfl, h2, fun j hj => ?_⟩
  obtain ⟨g, off, rfl, hg, hr⟩ := h3 j hj
  refine ⟨g, off, rfl, Nat.lt_of_lt_of_le hg hs, ?_⟩
  rw [← hr]
  exact World.cell?_of_block (a := ⟨g, off + j, none⟩) (hb g rfl)
/-- Marks at block g. -/
def Bd (W : World) (g k : Nat) (f : Nat → Bool) : Prop := W.rowIs g 4 k (fun i => .bool (f i))
section
variable {W W' : World} {g k : Nat} {f : Nat → Bool}
theorem Bd.lt (h : Bd W g k f) : g < W.heap.size := World.rowIs.lt h
theorem Bd.fz (h : Bd W g k f) (i : Nat) : W.frozen? ⟨g, i, none⟩ = false := World.rowIs.frozen h i
theorem Bd.cell (h : Bd W g k f) {i : Nat} (hi : i < k) : W.cell? ⟨g, i, none⟩ = some (.bool (f i)) := World.rowIs.cell h hi
theorem Bd.set (h : Bd W g k f) (i : Nat) (x : Bool) {f' : Nat → Bool} (e : ∀ j, j < k → (if j = i then x else f j) = f' j) : Bd (W.setCell ⟨g, i, none⟩ (.bool x)) g k f' := by
  refine (World.rowIs.set h i _).congr (fun j hj => ?_)
  rw [← e j hj]
  by_cases e : j = i <;> simp [e]
theorem Bd.of_own {n : Nat} {xs : List Value} (h : W.ownsRow 0 4 1 (.slice (some ⟨g, 0, none⟩) n n) n xs) (hx : ∀ i, i < n → xs[i]? = some (.bool (f i))) : Bd W g n f := by
  rcases h.2 with ⟨e, _⟩ | ⟨g', cap, cur, e, _, hg, _, _, hsz, ht⟩
  · cases e
  · injection e with e1 e2 e3
    cases e1
    subst e3
    refine row_of (by simpa using hsz) hg (fun i hi => ?_)
    rw [← hx i hi, ← ht, List.getElem?_take, if_pos (by omega), Array.getElem?_toList]
theorem Bd.list (h : Bd W g k f) (ms : List Bool) (hl : ms.length = k) (he : ∀ i, i < k → ms.getD i false = f i) : LB W (.slice (some ⟨g, 0, none⟩) k k) ms := by
  subst hl
  exact ⟨_, _, rfl, Nat.le_refl _, fun i hi => ⟨g, 0, rfl, h.lt, by rw [Nat.zero_add, he i hi]; exact h.cell hi⟩⟩
end
theorem bool_info : (Tryd.prog.info? 4).map (fun i => (i.zero, i.size, i.bytes)) = some (some (.bool false), 1, 1) := by kernel_rfl
theorem bool_parts : ∃ i, Tryd.prog.info? 4 = some i ∧ i.zero = some (.bool false) ∧ i.size = 1 ∧ i.bytes = 1 := by
  have h := bool_info
  cases hi : Tryd.prog.info? 4 with
  | none => rw [hi] at h; cases h
  | some i =>
    rw [hi] at h
    simp only [Option.map_some, Option.some.injEq, Prod.mk.injEq] at h
    exact ⟨i, rfl, h⟩
/-- What a level above holds when j marks of a level were gone over. -/
def pb (l : List Bool) (j i : Nat) : Bool := (decide (2 * i < j) && l.getD (2 * i) false) || (decide (2 * i + 1 < j) && l.getD (2 * i + 1) false)
theorem pb_step (l : List Bool) (j i : Nat) : (if i = j / 2 then (pb l j (j / 2) || l.getD j false) else pb l j i) = pb l (j + 1) i := by
  unfold pb
  by_cases h : i = j / 2
  · subst h
    rw [if_pos rfl]
    rcases Nat.mod_two_eq_zero_or_one j with h0 | h0
    · have e : 2 * (j / 2) = j := by omega
      rw [e]
      simp
      intro h
      omega
    · have e : 2 * (j / 2) + 1 = j := by omega
      have e1 : 2 * (j / 2) < j := by omega
      rw [e]
      simp [e1, Nat.lt_succ_of_lt e1]
  · rw [if_neg h]
    have e1 : (2 * i < j) ↔ (2 * i < j + 1) := by omega
    have e2 : (2 * i + 1 < j) ↔ (2 * i + 1 < j + 1) := by omega
    simp only [e1, e2]
theorem pb_zero (l : List Bool) (i : Nat) : pb l 0 i = false := by simp [pb]
theorem getD_past (l : List Bool) (i : Nat) (h : l.length ≤ i) : l.getD i false = false := by
  rw [List.getD_eq_getElem?_getD, List.getElem?_eq_none h]
  rfl
theorem pb_all (l : List Bool) (i : Nat) : pb l l.length i = (l.getD (2 * i) false || l.getD (2 * i + 1) false) := by
  unfold pb
  by_cases h1 : 2 * i + 1 < l.length
  · simp [h1, Nat.lt_of_succ_lt h1]
  · rw [getD_past l (2 * i + 1) (by omega)]
    by_cases h2 : 2 * i < l.length
    · simp [h2]
    · rw [getD_past l (2 * i) (by omega)]
      simp
/-- What the loops of meantLevels hold: the levels so far, and the level that is being made. -/
structure Mz (ms : List Bool) (w W : World) (v : Value) (vs : List Value) (g n : Nat) (f : Nat → Bool) : Prop where
  rw' : Rw 23 (PM ms) w W v vs
  bd : Bd W g n f
  far : w.heap.size ≤ g
  ap : v.ownBlock ≠ some g
  aps : ∀ x ∈ vs, x.ownBlock ≠ some g
theorem Mz.set {ms : List Bool} {w W : World} {v : Value} {vs : List Value} {g n : Nat} {f f' : Nat → Bool} (j : Mz ms w W v vs g n f) (i : Nat) (x : Bool) (e : ∀ j, j < n → (if j = i then x else f j) = f' j) : Mz ms w (W.setCell ⟨g, i, none⟩ (.bool x)) v vs g n f' := by
  have hb : ∀ g', g' ≠ g → (W.setCell ⟨g, i, none⟩ (.bool x)).heap[g']? = W.heap[g']? := fun g' h => Below.heap_setCell _ _ _ _ h
  have hs : (W.setCell ⟨g, i, none⟩ (.bool x)).heap.size = W.heap.size := by simp [World.setCell]
  refine ⟨⟨row_blockG j.rw'.row fun g' hg => hb g' (fun e => j.ap (e ▸ hg)), j.rw'.bel.setCell j.far _, j.rw'.far, fun k y hy => ?_⟩, j.bd.set i x e, j.far, j.ap, j.aps⟩
  have hm : y ∈ vs := List.mem_of_getElem? hy
  refine ⟨PM.kp ms k W _ y (j.rw'.el k y hy).1 (fun g' hg => hb g' (fun e => j.aps y hm (e ▸ hg))) (Nat.le_of_eq hs.symm), fun g' hg => ?_⟩
  rw [hs]
  exact (j.rw'.el k y hy).2 g' hg
section
set_option maxRecDepth 10000
set_option maxHeartbeats 4000000
theorem meantLevels_any (v : Value) (ms : List Bool) (w : World) (hL : LB w v ms) (h0 : 0 < ms.length) (hn : ms.length < 4294967296) : Calls Tryd.prog 20 #[v] w fun e w' => ∃ v', e = .returned v' ∧ ∃ vs, Rw 23 (PM ms) w w' v' vs ∧ vs.length = dp ms.length + 1 := by
  have hlt0 : ∀ g, v.ownBlock = some g → g < w.heap.size := fun g hg => by
    obtain ⟨ao, cap, rfl, _, h3⟩ := hL
    obtain ⟨g', off, rfl, h4, _⟩ := h3 0 h0
    cases hg
    exact h4
  have J0 := hide (Rw.new (te := 23) (PM.kp ms) (Below.refl w.heap.size w) (show PM ms 0 w v from hL) hlt0)
  obtain ⟨ao, cap, rfl, _⟩ := hL.form
  obtain ⟨i0, hi, hz, hs, hby⟩ := bool_parts
  have HN := hide (And.intro h0 hn)
  clear hL h0 hn hlt0
  go_enter Tryd.func20, Tryd.ntmps20
  go_wp2
  generalize w.alloc (.cells #[.slice ao ms.length cap] 23) = W0 at *
  go_loopw [3, 4, 5, 6, 7, 20] (fun s3 s4 _ _ _ _ wr => ∃ (k : Nat) (vs : List Value), vs.length = k + 1 ∧ vs[k]? = some s4 ∧ Hid (Rw 23 (PM ms) w wr s3 vs) ∧ Hid (dp (mv ms k).length + k = dp ms.length)) (fun _ s4 _ _ _ _ _ => lenV2 s4)
  case atStart => exact ⟨0, _, rfl, rfl, J0, by rfl⟩
  case round =>
    clear J0
    obtain ⟨k, vs, hvs, hv4, J, HD⟩ := hrel
    have HV := hide (And.intro hvs hv4)
    have O4 : Hid (LB wr u4 (mv ms k)) := (J.out.el k _ hv4).1
    clear hvs hv4
    obtain ⟨ao4, cap4, rfl, _⟩ := O4.out.form
    have hn := HN.out
    have hlm : (mv ms k).length ≤ ms.length := by
      rw [mv_len ms (ms.map fun _ => []) (by simp) k]
      exact Nat.le_trans (lv_le _ k) (by simp)
    by_cases hlt : 1 < (mv ms k).length
    · have h1 : (1 : Int) < ((mv ms k).length : Int) := by omega
      have HU := hide (show mv ms (k + 1) = upM (mv ms k) from rfl)
      generalize hl : mv ms k = l at *
      have HLK := hide hl
      clear hl
      have HW := hide fun W => width_any l.length 1 (by omega) (by omega) W
      rw [show wdt l.length 1 = (l.length + 1) / 2 from rfl] at HW
      obtain ⟨n, hnn⟩ : ∃ n, n = (l.length + 1) / 2 := ⟨_, rfl⟩
      rw [← hnn] at HW
      have HNN := hide hnn
      have HLL := hide hlt
      have M0 : Hid (Mz ms w (wr.alloc (.cells (madeCells #[.bool false] n) 4)) u3 vs wr.heap.size n (pb l 0)) :=
        ⟨J.out.next (PM.kp ms) ((Below.refl _ _).alloc (Nat.le_refl _) _), (World.rowIs_made wr (.bool false) n 4).congr (fun i _ => by rw [pb_zero]), J.out.bel.size, fun e => Nat.lt_irrefl _ (J.out.row.lt _ e).2, fun x hx e => by
          obtain ⟨i, hi⟩ := List.getElem?_of_mem hx
          exact Nat.lt_irrefl _ ((J.out.el i x hi).2 _ e).1⟩
      have b1 : i0.bytes * n ≤ 281474976710656 := by rw [hby]; omega
      have b2 : n ≤ 9223372036854775807 := by omega
      have HB := hide (And.intro b1 b2)
      have HH := hide (And.intro hi (And.intro hz hs))
      have HLN := hide hlm
      clear hi hz hs hby b1 b2 hnn hlt hlm hn
      go_upto_region 5 with (first | (go_at_call 34; refine (HW.out _).mono ?_; rintro e w1 ⟨rfl, hww⟩; subst w1) | (at_make; refine wpList_make_row _ rfl _ _ 23 rfl 4 i0 (.bool false) Tryd.underlying23 HH.out.1 HH.out.2.1 HH.out.2.2 rfl .i64 .i64 n rfl rfl HB.out.1 HB.out.2 ?_))
      generalize wr.alloc (.cells (madeCells #[.bool false] n) 4) = W1 at *
      generalize wr.heap.size = g5 at *
      go_wp2
      go_loopw [6, 7, 20] (fun _ _ d wi => ∃ j : Nat, j ≤ l.length ∧ d = .int .i64 (j : Int) ∧ Hid (Mz ms w wi u3 vs g5 n (pb l j))) (fun _ _ d _ => (l.length - intOf d).toNat)
      case atStart => exact ⟨0, Nat.zero_le _, rfl, M0⟩
      case round =>
        clear M0
        obtain ⟨j, hj, rfl, M⟩ := hrel
        have hnb := HN.out.2
        have hln : l.length ≤ ms.length := HLN.out
        by_cases hlj : j < l.length
        · obtain ⟨g4, off4, rfl⟩ := O4.out.base (by omega)
          have h2 : (j : Int) < (l.length : Int) := by omega
          have h3 : (0 : Int) ≤ (j : Int) := by omega
          have cl : wr.cell? ⟨g4, off4 + j, none⟩ = some (.bool (l.getD j false)) := by
            have h := (M.out.rw'.el k _ HV.out.2).1
            unfold PM at h
            rw [HLK.out] at h
            exact h.cell j hlj
          have hj2 : j / 2 < n := by rw [HNN.out]; omega
          have c2 := M.out.bd.cell hj2
          have fz := M.out.bd.fz (j / 2)
          have hj3 : ((j / 2 : Nat) : Int) < (n : Int) := by omega
          have e1 : (j : Int) / 2 = ((j / 2 : Nat) : Int) := by omega
          have e2 : IntKind.i64.wrap ((j : Int) + 1) = j + 1 := wrapI _ (by omega) (by omega)
          have e4 : wrap64 ((j / 2 : Nat) : Int) = ((j / 2 : Nat) : Int) := by
            unfold wrap64
            omega
          have h5 : (0 : Int) ≤ ((j / 2 : Nat) : Int) := by omega
          have PS := hide (pb_step l j)
          obtain ⟨q, hq⟩ : ∃ q, q = j / 2 := ⟨_, rfl⟩
          rw [← hq] at c2 fz hj3 e1 e4 h5 PS
          obtain ⟨m, hm⟩ : ∃ m, m = l.getD j false := ⟨_, rfl⟩
          obtain ⟨o, ho⟩ : ∃ o, o = pb l j q := ⟨_, rfl⟩
          rw [← hm] at cl PS
          rw [← ho] at c2 PS
          have KK := hide (And.intro (show j + 1 ≤ l.length by omega) (show ((l.length : Int) - ((j : Int) + 1)).toNat < ((l.length : Int) - (j : Int)).toNat by omega))
          clear hm ho hq hj2 hlj hj hnb hln
          cases o
          · have M2 := hide (M.out.set q m (f' := pb l (j + 1)) (fun i _ => by have := PS.out i; simpa using this))
            clear M PS
            go_wp2
            exact ⟨⟨j + 1, KK.out.1, by go_num, M2⟩, by simpa [intOf] using KK.out.2⟩
          · have M2 := hide (M.out.set q true (f' := pb l (j + 1)) (fun i _ => by have := PS.out i; simpa using this))
            clear M PS
            go_wp2
            exact ⟨⟨j + 1, KK.out.1, by go_num, M2⟩, by simpa [intOf] using KK.out.2⟩
        · have h2 : ¬ (j : Int) < (l.length : Int) := by omega
          obtain rfl : j = l.length := by omega
          have hnl := HNN.out
          have hl1 := HLL.out
          have HD2 : Hid (dp (mv ms (k + 1)).length + (k + 1) = dp ms.length) := by
            show _ = _
            rw [← HD.out, HU.out, upM_len, dp_step l.length hl1]
            omega
          have OB : Hid (PM ms (k + 1) wr (.slice (some ⟨g5, 0, none⟩) n n)) := by
            show LB _ _ _
            rw [HU.out]
            exact M.out.bd.list _ (by rw [upM_len, hnl]) (fun i _ => by rw [upM_at, pb_all])
          have ME := hide (show n < l.length by omega)
          have SZ : Hid (vs.length ≤ 1000) := by
            show _ ≤ _
            have := HV.out.1
            have := HD.out
            have := dp_le ms.length hnb
            omega
          have J3 := hide (M.out.rw'.next (PM.kp ms) ((Below.refl _ _).alloc (Nat.le_refl _) (.cells #[.slice (some ⟨g5, 0, none⟩) n n] 23)))
          have O3 : Hid (PM ms vs.length (wr.alloc (.cells #[.slice (some ⟨g5, 0, none⟩) n n] 23)) (.slice (some ⟨g5, 0, none⟩) n n)) := by
            show LB _ _ _
            rw [HV.out.1]
            exact LB.below OB.out ((Below.refl _ _).alloc (Nat.le_refl _) _)
          have NB3 : Hid (∀ g, (Value.slice (some ⟨g5, 0, none⟩) n n).ownBlock = some g → g < (wr.alloc (.cells #[.slice (some ⟨g5, 0, none⟩) n n] 23)).heap.size ∧ u3.ownBlock ≠ some g) := fun g hg => by
            cases hg
            exact ⟨Nat.lt_of_lt_of_le M.out.bd.lt (by simp), M.out.ap⟩
          have C3 : Hid ((wr.alloc (.cells #[.slice (some ⟨g5, 0, none⟩) n n] 23)).cell? ⟨wr.heap.size, 0, none⟩ = some (.slice (some ⟨g5, 0, none⟩) n n)) := by
            show _ = _
            rw [cell_of_row _ _ _ _ _ _ (heap_alloc_last wr _)]
            rfl
          clear hlj hj hnb hln hnl hl1
          go_wp2_with (first | (at_builtin; refine TE.wpApp TB (PM.kp ms) rfl _ _ rfl rfl J3.out ⟨wr.heap.size, 0, none⟩ rfl (.slice (some ⟨g5, 0, none⟩) n n) rfl C3.out O3.out NB3.out SZ.out ?_; intro v5 w5 j5; have J5 := hide j5; clear j5))
          exact ⟨⟨k + 1, vs ++ [.slice (some ⟨g5, 0, none⟩) n n], by simp [HV.out.1], by rw [← HV.out.1]; simp, J5, HD2⟩, by simpa [lenV2] using ME.out⟩
    · have h1 : ¬ (1 : Int) < ((mv ms k).length : Int) := by omega
      have HK : Hid (vs.length = dp ms.length + 1) := by
        show _ = _
        have := HD.out
        rw [dp_low (mv ms k).length (by omega)] at this
        have := HV.out.1
        omega
      clear hlt hlm hn
      go_wp2
      go_ret
      exact ⟨_, rfl, vs, J.out, HK.out⟩
end
end Go.Proofs.YthlaibkdcebekaaDoor
namespace Go.Proofs.YthlaibkdcebekaaDoor
open Go.RowKit
open Go.Deep
theorem EL.inf : (Tryd.prog.info? 22).map (fun i => (i.zero.map (·.cells.size), i.size, i.bytes)) = some (some 1, 1, 24) := by kernel_rfl
theorem EL.parts : ∃ i z, Tryd.prog.info? 22 = some i ∧ i.zero = some z ∧ z.cells.size = 1 ∧ i.size = 1 ∧ i.bytes = 24 := by
  have h := EL.inf
  cases hi : Tryd.prog.info? 22 with
  | none => rw [hi] at h; cases h
  | some i =>
    rw [hi] at h
    simp only [Option.map_some, Option.some.injEq, Prod.mk.injEq] at h
    obtain ⟨h1, h2, h3⟩ := h
    cases hz : i.zero with
    | none => rw [hz] at h1; cases h1
    | some z =>
      rw [hz] at h1
      exact ⟨i, z, rfl, hz, by simpa using h1, h2, h3⟩
/-- Lists of ids in a list of the program's own: the levels of L, as many as there are. -/
structure Ls (w W : World) (v : Value) (vs : List Value) (L : List (List UInt8)) : Prop where
  row : W.ownsRow 0 22 1 v vs.length vs
  bel : Below w.heap.size w W
  far : ∀ g, v.ownBlock = some g → w.heap.size ≤ g
  own : ∀ i x, vs[i]? = some x → OH 39 W x (lv L i)
section
variable {w W W' : World} {v v' : Value} {vs : List Value} {L : List (List UInt8)}
theorem row_block {e : TypeId} {n : Nat} {xs : List Value} (h : W.ownsRow 0 e 1 v n xs) (hb : ∀ g, v.ownBlock = some g → W'.heap[g]? = W.heap[g]?) : W'.ownsRow 0 e 1 v n xs := by
  obtain ⟨h2, h3⟩ := h
  refine ⟨h2, ?_⟩
  rcases h3 with ⟨rfl, h0⟩ | ⟨g, cap, cur, rfl, h4, hg, h5⟩
  · exact .inl ⟨rfl, h0⟩
  · exact .inr ⟨g, cap, cur, rfl, h4, (hb g rfl).trans hg, h5⟩
theorem Ls.next (j : Ls w W v vs L) (h : Below W.heap.size W W') : Ls w W' v vs L :=
  ⟨row_block j.row fun g hg => h.block _ (j.row.lt g hg).2, below_next j.bel h, j.far, fun i x hx => (j.own i x hx).below h⟩
theorem Ls.drew (j : Ls w W v vs L) : Ls w W.drew v vs L := j.next (Below.refl _ _).drew
/-- A list of ids lies in another block than the list of lists. -/
theorem rows_apart {n : Nat} {xs : List Value} {x : Value} {M : List (List UInt8)} (h : W.ownsRow 0 22 1 v n xs) (o : OH 39 W x M) : ∀ g, x.ownBlock = some g → v.ownBlock ≠ some g := by
  intro g hx hv
  rcases h.2 with ⟨rfl, _⟩ | ⟨g1, cap, cur, rfl, _, hg, _⟩
  · cases hv
  · rcases o.2.2 with ⟨rfl, _⟩ | ⟨g2, cap2, cur2, rfl, _, hg2, _⟩
    · cases hx
    · cases hx
      cases hv
      rw [hg] at hg2
      injection hg2 with hg2
      injection hg2 with _ e2
      exact absurd e2 (by decide)
theorem Ls.onto (j : Ls w W v vs L) (h : Onto W W' v v') {x : Value} (hr : W'.ownsRow 0 22 1 v' (vs.length + 1) (vs ++ [x])) (hx : OH 39 W x (lv L vs.length)) : Ls w W' v' (vs ++ [x]) L := by
  have kp : ∀ (y : Value) (M : List (List UInt8)), OH 39 W y M → OH 39 W' y M := fun y M o => o.of_block fun g hg => h.grown.block g (o.lt g hg) (fun e => rows_apart j.row o g hg e.symm)
  refine ⟨by simpa using hr, j.bel.trans (h.below j.bel.size j.far), h.far j.bel.size j.far, fun i y hy => ?_⟩
  rcases Nat.lt_or_ge i vs.length with hi | hi
  · rw [List.getElem?_append_left hi] at hy
    exact kp _ _ (j.own i y hy)
  · rw [List.getElem?_append_right hi] at hy
    have h0 : i - vs.length = 0 := by
      have := (List.getElem?_eq_some_iff.1 hy).1
      simp at this
      omega
    rw [h0] at hy
    cases hy
    rw [show i = vs.length by omega]
    exact kp _ _ hx
theorem Ls.new {W0 : World} {x : Value} (b : Below w.heap.size w W0) (hx : OH 39 W0 x L) : Ls w (W0.alloc (.cells #[x] 22)) (.slice (some ⟨W0.heap.size, 0, none⟩) 1 1) [x] L :=
  ⟨⟨rfl, .inr ⟨W0.heap.size, 1, #[x], rfl, Nat.zero_le _, heap_alloc_last _ _, Nat.le_refl _, by unfold maxLen; omega, rfl, rfl⟩⟩, b.alloc b.size _, fun g hg => by cases hg; exact b.size, fun i y hy => by
    rcases i with _ | i
    · cases hy
      exact hx.alloc _
    · simp at hy⟩
/-- The place of a level. -/
theorem Ls.cell (j : Ls w W v vs L) {g : Nat} (hg : v.ownBlock = some g) {i : Nat} {x : Value} (hx : vs[i]? = some x) : W.cell? ⟨g, i, none⟩ = some x := by
  have := j.row.cells hg i x hx
  have hadd : (⟨g, 0, none⟩ : Addr).add i = ⟨g, i, none⟩ := by unfold Addr.add; split <;> simp_all
  rw [hadd] at this
  exact this
theorem Ls.form (j : Ls w W v vs L) (h0 : 0 < vs.length) : ∃ g cap, v = .slice (some ⟨g, 0, none⟩) vs.length cap ∧ vs.length ≤ cap := by
  rcases j.row.2 with ⟨_, h⟩ | ⟨g, cap, cur, rfl, _, _, h5, _⟩
  · omega
  · exact ⟨g, cap, rfl, h5⟩
theorem EL.app (j : Ls w W v vs L) {ty : TypeId} (ad : Addr) (x : Value) (h1 : x.oneCell' = true) (hc1 : W.cell? ad = some x) (hx : OH 39 W x (lv L vs.length)) (hn : vs.length ≤ 1000) :
    ∃ v' W', (Builtin.append_ #[54, 54] ty #[v, .slice (some ad) 1 1]).run Tryd.prog W = .ok v' W' ∧ Ls w W' v' (vs ++ [x]) L := by
  obtain ⟨i0, z, hi, hz0, hzs, hz1, hz2⟩ := EL.parts
  obtain ⟨v', w', hr, h2, h3, _, h5⟩ := run_append_own_at (P := Tryd.prog) W 0 54 ty 22 i0 z 1 24 Tryd.underlying54 hi hz0 hz1 hz2 hzs (by decide) v vs.length vs j.row ad 1 1 [x] rfl
    (fun k u hu => by
      rcases k with _ | k
      · cases hu
        rw [show ad.add 0 = ad by unfold Addr.add; split <;> simp_all]
        exact hc1
      · simp at hu)
    (fun u hu => by simp at hu; rw [hu]; exact h1) (by unfold maxLen; omega) (by omega) (Nat.zero_le _)
  refine ⟨v', w', hr, j.onto ⟨h3, ?_⟩ h2 hx⟩
  rcases h5 with h5 | h5
  · exact .inl h5
  · exact .inr ⟨_, h5, Nat.le_refl _⟩
end
section
variable {w W : World} {ops : Array Oper} {rest : List Oper} {o : Oper} {a : Act} {Q : Exit → Act → World → Prop} {v : Value} {vs : List Value} {L : List (List UInt8)}
theorem EL.wpApp (hgd : o.guard = none) (s y : Operand)
    (ho : o.op = .call { callee := .builtin .append, args := #[s, y], argTypes := #[54, 54] })
    (hs : a.eval s = v) (j : Ls w W v vs L) (ad : Addr) (hy : a.eval y = .slice (some ad) 1 1) (x : Value) (h1 : x.oneCell' = true) (hc1 : W.cell? ad = some x) (hx : OH 39 W x (lv L vs.length)) (hn : vs.length ≤ 1000)
    (h : ∀ v' W', Ls w W' v' (vs ++ [x]) L → wpList Tryd.prog ops Q rest (a.put o.dst v') W') :
    wpList Tryd.prog ops Q (o :: rest) a W := by
  refine wpList_plain hgd fun K hK => ?_
  obtain ⟨v', w', hr, h2⟩ := EL.app (ty := o.type) j ad x h1 hc1 hx hn
  unfold Oper.wp execOp
  simp only [ho, resolve, invoke, builtin, Sem.run_bind, Sem.run_pure, Result.andThen_ok, List.map_toArray, List.map_cons, List.map_nil, hs, hy, hr]
  exact hK _ _ (h v' w' h2)
end
section
set_option maxRecDepth 10000
set_option maxHeartbeats 4000000
theorem levels_nil (cap : Nat) (ao : Option Addr) (w : World) : Calls Tryd.prog 19 #[.slice ao 0 cap] w fun e w' => e = .returned (.slice none 0 0) ∧ w' = w := by
  go_enter Tryd.func19, Tryd.ntmps19
  go_wp2
  go_ret
  exact ⟨rfl, rfl⟩
theorem levels_any (v : Value) (L : List (List UInt8)) (w : World) (hL : LH w v L) (h0 : 0 < L.length) (hn : L.length < 4294967296) (hK : Kg w) : Calls Tryd.prog 19 #[v] w fun e w' => ∃ v' vs, e = .returned v' ∧ Ls w w' v' vs L ∧ vs.length = dp L.length + 1 := by
  have HC := hide (clone_any6 v L w hL h0 hn)
  obtain ⟨ao, cap, rfl⟩ := hL.form
  have hne : ((L.length : Int) == 0) = false := by rw [beq_eq_false_iff_ne]; omega
  have KW : Hid (∀ W, Below w.heap.size w W → Kg W) := fun W h => hK.next h
  have HN := hide (And.intro h0 hn)
  clear hL h0 hn hK
  go_enter Tryd.func19, Tryd.ntmps19
  go_upto_region 4 with (first | (go_at_call 33; refine HC.out.mono ?_; rintro e w1 ⟨v1, rfl, o1⟩; obtain ⟨ao1, c1, rfl⟩ := o1.own.form; have O1 := hide o1; clear o1))
  have J0 := hide (Ls.new O1.out.bel O1.out.own)
  have c0 := J0.out.cell (g := w1.heap.size) rfl (i := 0) rfl
  generalize hW1 : w1.alloc (.cells #[.slice ao1 L.length c1] 22) = W1 at *
  generalize w1.heap.size = g1 at *
  clear hW1 O1 HC
  go_wp2
  go_loopw [3, 4] (fun v3 v4 wr => ∃ (k : Nat) (vs : List Value), vs.length = k + 1 ∧ vs[k]? = some v4 ∧ Hid (Ls w wr v3 vs L) ∧ Hid (dp (lv L k).length + k = dp L.length)) (fun _ v4 _ => lenV2 v4)
  case atStart => exact ⟨0, _, rfl, rfl, J0, by rfl⟩
  case round =>
    clear J0 c0
    obtain ⟨k, vs, hvs, hv4, J, HD⟩ := hrel
    have HV := hide (And.intro hvs hv4)
    have o4 := J.out.own k _ hv4
    clear hvs hv4
    obtain ⟨ao4, cap4, rfl⟩ := o4.form
    have O4 := hide o4
    clear o4
    have hle := lv_le L k
    have hpos := lv_pos L HN.out.1 k
    have hn := HN.out.2
    by_cases hlt : 1 < (lv L k).length
    · have h1 : (1 : Int) < ((lv L k).length : Int) := by omega
      have HD2 : Hid (dp (lv L (k + 1)).length + (k + 1) = dp L.length) := by
        show _ = _
        rw [← HD.out, dp_step _ hlt, lv, nxt_len]
        omega
      have HA := hide fun W hW hKW => above_any (.slice ao4 (lv L k).length cap4) (lv L k) W hW (by omega) hKW
      rw [show nxt (lv L k) = lv L (k + 1) from rfl] at HA
      have ME := hide (show (lv L (k + 1)).length < (lv L k).length by rw [lv, nxt_len]; omega)
      have SZ : Hid (vs.length ≤ 1000) := by
        show _ ≤ _
        have := HV.out.1
        have := HD.out
        have := dp_le L.length hn
        omega
      clear hlt hle hpos hn hne
      go_upto_region 7 with (first | (go_at_call 28; refine (HA.out _ O4.out.read (KW.out _ J.out.bel)).mono ?_; rintro e w2 ⟨v2, rfl, o2⟩; obtain ⟨ao2, c2, rfl⟩ := o2.own.form; have J2 := hide (J.out.next o2.bel); have O2 := hide o2.own; clear o2))
      have J3 := hide (J2.out.next ((Below.refl _ _).alloc (Nat.le_refl _) (.cells #[.slice ao2 (lv L (k + 1)).length c2] 22)))
      have O3 : Hid (OH 39 (w2.alloc (.cells #[.slice ao2 (lv L (k + 1)).length c2] 22)) (.slice ao2 (lv L (k + 1)).length c2) (lv L vs.length)) := by
        show OH _ _ _ _
        rw [HV.out.1]
        exact O2.out.alloc _
      have C3 : Hid ((w2.alloc (.cells #[.slice ao2 (lv L (k + 1)).length c2] 22)).cell? ⟨w2.heap.size, 0, none⟩ = some (.slice ao2 (lv L (k + 1)).length c2)) := by
        show _ = _
        rw [cell_of_row _ _ _ _ _ _ (heap_alloc_last w2 _)]
        rfl
      go_wp2_with (first | (at_builtin; refine EL.wpApp rfl _ _ rfl rfl J3.out ⟨w2.heap.size, 0, none⟩ rfl (.slice ao2 (lv L (k + 1)).length c2) rfl C3.out O3.out SZ.out ?_; intro v5 w5 j5; have J5 := hide j5; clear j5))
      exact ⟨⟨k + 1, vs ++ [.slice ao2 (lv L (k + 1)).length c2], by simp [HV.out.1], by rw [← HV.out.1]; simp, J5, HD2⟩, by simpa [lenV2] using ME.out⟩
    · have h1 : ¬ (1 : Int) < ((lv L k).length : Int) := by omega
      have hl1 : (lv L k).length = 1 := by omega
      have HK : Hid (vs.length = dp L.length + 1) := by
        show _ = _
        have := HD.out
        rw [hl1, dp_low 1 (by omega)] at this
        have := HV.out.1
        omega
      clear hlt hle hn hl1 hne hpos
      go_wp2
      go_ret
      exact ⟨_, rfl, vs, J.out, HK.out⟩
end
end Go.Proofs.YthlaibkdcebekaaDoor
namespace Go.Proofs.YthlaibkdcebekaaDoor
open Go.RowKit
open Go.Deep
/-- Bits of the program's own. -/
def OB (W : World) (v : Value) (bs : List Bool) : Prop := W.ownsRow 0 4 1 v bs.length (bs.map Value.bool)
section
variable {W W' : World} {v v' : Value} {bs : List Bool}
theorem OB.nil (W : World) : OB W (.slice none 0 0) [] := World.ownsRow_nil _ _ _ _
theorem OB.of_block (h : OB W v bs) (hb : ∀ g, v.ownBlock = some g → W'.heap[g]? = W.heap[g]?) : OB W' v bs := row_blockG h hb
theorem OB.lt (h : OB W v bs) : ∀ g, v.ownBlock = some g → g < W.heap.size := fun g hg => (World.ownsRow.lt h g hg).2
theorem OB.below (h : OB W v bs) (b : Below W.heap.size W W') : OB W' v bs := h.of_block fun g hg => b.block _ (h.lt g hg)
theorem OB.form (h : OB W v bs) : ∃ ao c, v = .slice ao bs.length c := by
  rcases h.2 with ⟨rfl, h0⟩ | ⟨g, cap, cur, rfl, _⟩
  · exact ⟨none, 0, by rw [h0]⟩
  · exact ⟨_, _, rfl⟩
theorem OB.read (h : OB W v bs) : LB W v bs := by
  rcases h.2 with ⟨rfl, h0⟩ | ⟨g, cap, cur, rfl, _, hg, hn, _⟩
  · exact ⟨none, 0, by rw [h0], by omega, fun i hi => by omega⟩
  · refine ⟨_, cap, rfl, hn, fun i hi => ⟨g, 0, rfl, lt_heap hg, ?_⟩⟩
    have := World.ownsRow.cells h (g := g) rfl i (.bool (bs.getD i false)) (by simp [List.getD_eq_getElem?_getD, hi])
    have hadd : (⟨g, 0, none⟩ : Addr).add i = ⟨g, 0 + i, none⟩ := by unfold Addr.add; split <;> simp_all
    rw [hadd] at this
    exact this
theorem OB.app (h : OB W v bs) {ty : TypeId} (ad : Addr) (b : Bool) (hc1 : W.cell? ad = some (.bool b)) (hn : bs.length ≤ 1000000) :
    ∃ v' W', (Builtin.append_ #[23, 23] ty #[v, .slice (some ad) 1 1]).run Tryd.prog W = .ok v' W' ∧ OB W' v' (bs ++ [b]) ∧ Onto W W' v v' := by
  obtain ⟨i0, hi, hz, hs, hby⟩ := bool_parts
  obtain ⟨v', w', hr, h2, h3, _, h5⟩ := run_append_own_at (P := Tryd.prog) W 0 23 ty 4 i0 (.bool false) 1 1 Tryd.underlying23 hi hz hs hby rfl (by decide) v bs.length (bs.map Value.bool) h ad 1 1 [.bool b] rfl
    (fun k u hu => by
      rcases k with _ | k
      · cases hu
        rw [show ad.add 0 = ad by unfold Addr.add; split <;> simp_all]
        exact hc1
      · simp at hu)
    (fun u hu => by simp at hu; rw [hu]; rfl) (by unfold maxLen; omega) (by omega) (Nat.zero_le _)
  refine ⟨v', w', hr, ?_, ⟨h3, ?_⟩⟩
  · unfold OB
    rw [List.length_append, List.map_append]
    exact h2
  · rcases h5 with h5 | h5
    · exact .inl h5
    · exact .inr ⟨_, h5, Nat.le_refl _⟩
end
section
variable {W : World} {ops : Array Oper} {rest : List Oper} {o : Oper} {a : Act} {Q : Exit → Act → World → Prop} {v : Value} {bs : List Bool}
theorem OB.wpApp (hgd : o.guard = none) (s y : Operand)
    (ho : o.op = .call { callee := .builtin .append, args := #[s, y], argTypes := #[23, 23] })
    (hs : a.eval s = v) (j : OB W v bs) (ad : Addr) (hy : a.eval y = .slice (some ad) 1 1) (b : Bool) (hc1 : W.cell? ad = some (.bool b)) (hn : bs.length ≤ 1000000)
    (h : ∀ v' W', OB W' v' (bs ++ [b]) → Onto W W' v v' → wpList Tryd.prog ops Q rest (a.put o.dst v') W') :
    wpList Tryd.prog ops Q (o :: rest) a W := by
  refine wpList_plain hgd fun K0 hK => ?_
  obtain ⟨v', w', hr, h2, h3⟩ := OB.app (ty := o.type) j ad b hc1 hn
  unfold Oper.wp execOp
  simp only [ho, resolve, invoke, builtin, Sem.run_bind, Sem.run_pure, Result.andThen_ok, List.map_toArray, List.map_cons, List.map_nil, hs, hy, hr]
  exact hK _ _ (h v' w' h2 h3)
end
/-- The cells of a teller. -/
def tc (v0 v1 : Value) (n : Nat) (vb vi : Value) (i : Nat) : Value := if i = 0 then v0 else if i = 1 then v1 else if i = 2 then .int .i64 (n : Int) else if i = 3 then vb else vi
/-- A teller at block gt, all of it made behind B; what was told. -/
structure Ts (B W : World) (gt : Nat) (v0 v1 : Value) (n : Nat) (vb vi : Value) (bs : List Bool) (is : List (List UInt8)) : Prop where
  bel : Below B.heap.size B W
  tfar : B.heap.size ≤ gt
  row : W.rowIs gt 59 5 (tc v0 v1 n vb vi)
  bits : OB W vb bs
  bfar : ∀ g, vb.ownBlock = some g → B.heap.size ≤ g
  ids : OH 39 W vi is
  ifar : ∀ g, vi.ownBlock = some g → B.heap.size ≤ g
section
variable {B W W' : World} {gt n : Nat} {v0 v1 vb vi v' : Value} {bs bs' : List Bool} {is is' : List (List UInt8)}
/-- Rows of different types lie in different blocks. -/
theorem Ts.tb (j : Ts B W gt v0 v1 n vb vi bs is) : vb.ownBlock ≠ some gt := fun e => by
  rcases j.bits.2 with ⟨rfl, _⟩ | ⟨g1, cap, cur, rfl, _, hg, _⟩
  · cases e
  · cases e
    obtain ⟨c, hc, _⟩ := j.row
    rw [hg] at hc
    injection hc with hc
    injection hc with _ e2
    exact absurd e2 (by decide)
theorem Ts.ti (j : Ts B W gt v0 v1 n vb vi bs is) : vi.ownBlock ≠ some gt := fun e => by
  rcases j.ids.2.2 with ⟨rfl, _⟩ | ⟨g1, cap, cur, rfl, _, hg, _⟩
  · cases e
  · cases e
    obtain ⟨c, hc, _⟩ := j.row
    rw [hg] at hc
    injection hc with hc
    injection hc with _ e2
    exact absurd e2 (by decide)
theorem Ts.bi (j : Ts B W gt v0 v1 n vb vi bs is) : ∀ g, vb.ownBlock = some g → vi.ownBlock ≠ some g := fun g h1 h2 => by
  rcases j.bits.2 with ⟨rfl, _⟩ | ⟨g1, cap, cur, rfl, _, hg, _⟩
  · cases h1
  · rcases j.ids.2.2 with ⟨rfl, _⟩ | ⟨g2, cap2, cur2, rfl, _, hg2, _⟩
    · cases h2
    · cases h1
      cases h2
      rw [hg] at hg2
      injection hg2 with hg2
      injection hg2 with _ e2
      exact absurd e2 (by decide)
theorem Ts.next (j : Ts B W gt v0 v1 n vb vi bs is) (h : Below W.heap.size W W') : Ts B W' gt v0 v1 n vb vi bs is :=
  ⟨below_next j.bel h, j.tfar, World.rowIs.of_block j.row (h.block _ (World.rowIs.lt j.row)), j.bits.below h, j.bfar, j.ids.below h, j.ifar⟩
/-- A bit more: the append, then the store of its list. -/
theorem Ts.bit (j : Ts B W gt v0 v1 n vb vi bs is) (o : OB W' v' bs') (h : Onto W W' vb v') : Ts B (W'.setCell ⟨gt, 3, none⟩ v') gt v0 v1 n v' vi bs' is := by
  have hgt : W'.heap[gt]? = W.heap[gt]? := h.grown.block _ (World.rowIs.lt j.row) (fun e => j.tb e.symm)
  have hr : W'.rowIs gt 59 5 (tc v0 v1 n vb vi) := World.rowIs.of_block j.row hgt
  have hne : ∀ g, v'.ownBlock = some g → g ≠ gt := fun g hg e => by
    subst e
    rcases o.2 with ⟨rfl, _⟩ | ⟨g1, cap, cur, rfl, _, hg2, _⟩
    · cases hg
    · cases hg
      obtain ⟨c, hc, _⟩ := hr
      rw [hg2] at hc
      injection hc with hc
      injection hc with _ e2
      exact absurd e2 (by decide)
  refine ⟨(j.bel.trans (h.below j.bel.size j.bfar)).setCell j.tfar _, j.tfar, (World.rowIs.set hr 3 v').congr (fun i hi => ?_), o.of_block (fun g hg => Below.heap_setCell _ _ _ _ (hne g hg)), h.far j.bel.size j.bfar, (j.ids.of_block fun g hg => h.grown.block g (j.ids.lt g hg) (fun e => j.bi g e.symm hg)).of_block (fun g hg => Below.heap_setCell _ _ _ _ (fun e => j.ti (hg.trans (congrArg some e)))), j.ifar⟩
  unfold tc
  by_cases h3 : i = 3
  · subst h3
    simp
  · have : i = 0 ∨ i = 1 ∨ i = 2 ∨ i = 4 := by omega
    rcases this with rfl | rfl | rfl | rfl <;> simp
/-- An id more. -/
theorem Ts.idm (j : Ts B W gt v0 v1 n vb vi bs is) (o : OH 39 W' v' is') (h : Onto W W' vi v') : Ts B (W'.setCell ⟨gt, 4, none⟩ v') gt v0 v1 n vb v' bs is' := by
  have hgt : W'.heap[gt]? = W.heap[gt]? := h.grown.block _ (World.rowIs.lt j.row) (fun e => j.ti e.symm)
  have hr : W'.rowIs gt 59 5 (tc v0 v1 n vb vi) := World.rowIs.of_block j.row hgt
  have hne : ∀ g, v'.ownBlock = some g → g ≠ gt := fun g hg e => by
    subst e
    rcases o.2.2 with ⟨rfl, _⟩ | ⟨g1, cap, cur, rfl, _, hg2, _⟩
    · cases hg
    · cases hg
      obtain ⟨c, hc, _⟩ := hr
      rw [hg2] at hc
      injection hc with hc
      injection hc with _ e2
      exact absurd e2 (by decide)
  refine ⟨(j.bel.trans (h.below j.bel.size j.ifar)).setCell j.tfar _, j.tfar, (World.rowIs.set hr 4 v').congr (fun i hi => ?_), (j.bits.of_block fun g hg => h.grown.block g (j.bits.lt g hg) (fun e => j.bi g hg e.symm)).of_block (fun g hg => Below.heap_setCell _ _ _ _ (fun e => j.tb (hg.trans (congrArg some e)))), j.bfar, o.of_block (fun g hg => Below.heap_setCell _ _ _ _ (hne g hg)), h.far j.bel.size j.ifar⟩
  unfold tc
  by_cases h4 : i = 4
  · subst h4
    simp
  · have : i = 0 ∨ i = 1 ∨ i = 2 ∨ i = 3 := by omega
    rcases this with rfl | rfl | rfl | rfl <;> simp
end
end Go.Proofs.YthlaibkdcebekaaDoor
namespace Go.Proofs.YthlaibkdcebekaaDoor
open Go.RowKit
open Go.Deep
section
set_option maxRecDepth 10000
set_option maxHeartbeats 4000000
end
end Go.Proofs.YthlaibkdcebekaaDoor
namespace Go.Proofs.YthlaibkdcebekaaDoor
open Go.RowKit
open Go.Deep
/-- To which id one comes by the first k ids of a branch. -/
def ckK (x : List UInt8) (p : Nat) (B : List (List UInt8)) : Nat → List UInt8
  | 0 => x
  | k + 1 => if p / 2 ^ k % 2 = 0 then pr (ckK x p B k) (ia B k) else pr (ia B k) (ckK x p B k)
theorem ckK_len {x : List UInt8} (hx : x.length = 32) (p : Nat) (B : List (List UInt8)) : ∀ k, (ckK x p B k).length = 32
  | 0 => hx
  | k + 1 => by
    rw [ckK]
    split <;> exact pr_len _ _
/-- An id that is changed in its place, and an answer's place. -/
structure Cj (w W : World) (t : TypeId) (x : List UInt8) : Prop where
  a : W.heap[w.heap.size]? = some (.cells (hc x) t (0, 0))
  r : W.heap[w.heap.size + 1]? = some (.cells (hc zeros) t (0, 0))
  bel : Below w.heap.size w W
theorem Cj.start (w : World) (t : TypeId) (x : List UInt8) : Cj w ((w.alloc (.cells (hc x) t)).alloc (.cells (hc zeros) t)) t x := by
  have h2 := heap_alloc_last (w.alloc (.cells (hc x) t)) (.cells (hc zeros) t)
  rw [show (w.alloc (.cells (hc x) t)).heap.size = w.heap.size + 1 by simp] at h2
  exact ⟨(Below.heap_alloc _ _ _ (by simp)).trans (heap_alloc_last w _), h2, ((Below.refl _ _).alloc (Nat.le_refl _) _).alloc (by simp) _⟩
theorem Cj.next {w W W' : World} {t : TypeId} {x : List UInt8} (j : Cj w W t x) (h : Below W.heap.size W W') : Cj w W' t x := ⟨(h.block _ (lt_heap j.a)).trans j.a, (h.block _ (lt_heap j.r)).trans j.r, below_next j.bel h⟩
theorem Cj.put {w W : World} {t : TypeId} {x : List UInt8} (j : Cj w W t x) (y : List UInt8) : Cj w (W.setRow w.heap.size (hc y)) t y := ⟨setRow_heap _ _ _ _ _ _ j.a, (setRow_other _ _ _ _ (by omega)).trans j.r, below_setRow j.bel (Nat.le_refl _) _⟩
section
set_option maxRecDepth 10000
set_option maxHeartbeats 4000000
theorem check_many (x : List UInt8) (p : Int) (v : Value) (B : List (List UInt8)) (w : World) (hB : LH w v B) (hn : 32 < B.length) : Calls Tryd.prog 16 #[.agg (hc x), .int .i64 p, v] w fun e w' => e = .returned (.tuple #[.agg (hc zeros), .int .i64 3]) ∧ Below w.heap.size w w' := by
  obtain ⟨ao, cap, rfl⟩ := hB.form
  have J0 := hide (Cj.start w 39 x)
  have h1 : (32 : Int) < (B.length : Int) := by omega
  clear hB hn
  go_enter Tryd.func16, Tryd.ntmps16
  go_upto_region 1 with (first | refine wpList_boxA rfl _ rfl (hc x) rfl ?_ | refine wpList_allocA A25 rfl rfl ?_)
  generalize (w.alloc (.cells (hc x) 39)).alloc (.cells (hc zeros) 39) = W0 at *
  go_wp2_with (first | refine wpList_buildA A25 rfl rfl ?_ | refine wpList_storeA A25 rfl _ _ rfl _ (hc zeros) (by rw [hc_size, zeros_len]) (hc_one _) rfl rfl (hc zeros) (by rw [hc_size, zeros_len]) 39 J0.out.r ?_)
  exact bodyPost_ret (v := .tuple #[.agg (hc zeros), .int .i64 3]) (resAB A25 Tryd.results16 _ _ (w.heap.size + 1) 39 (hc zeros) (by rw [hc_size, zeros_len]) rfl (setRow_heap _ _ _ _ _ _ J0.out.r) _ (by rfl)) rfl ⟨rfl, below_setRow J0.out.bel (by omega) _⟩
theorem check_place (x : List UInt8) (p : Int) (v : Value) (B : List (List UInt8)) (w : World) (hB : LH w v B) (hn : ¬ 32 < B.length) (hp : p < 0 ∨ ((2 ^ B.length : Nat) : Int) ≤ p) : Calls Tryd.prog 16 #[.agg (hc x), .int .i64 p, v] w fun e w' => e = .returned (.tuple #[.agg (hc zeros), .int .i64 60]) ∧ Below w.heap.size w w' := by
  obtain ⟨ao, cap, rfl⟩ := hB.form
  have J0 := hide (Cj.start w 39 x)
  have h1 : ¬ (32 : Int) < (B.length : Int) := by omega
  clear hB
  rcases hp with hp | hp
  · clear hn
    go_enter Tryd.func16, Tryd.ntmps16
    go_upto_region 1 with (first | refine wpList_boxA rfl _ rfl (hc x) rfl ?_ | refine wpList_allocA A25 rfl rfl ?_)
    generalize (w.alloc (.cells (hc x) 39)).alloc (.cells (hc zeros) 39) = W0 at *
    go_wp2_with (first | refine wpList_buildA A25 rfl rfl ?_ | refine wpList_storeA A25 rfl _ _ rfl _ (hc zeros) (by rw [hc_size, zeros_len]) (hc_one _) rfl rfl (hc zeros) (by rw [hc_size, zeros_len]) 39 J0.out.r ?_)
    exact bodyPost_ret (v := .tuple #[.agg (hc zeros), .int .i64 60]) (resAB A25 Tryd.results16 _ _ (w.heap.size + 1) 39 (hc zeros) (by rw [hc_size, zeros_len]) rfl (setRow_heap _ _ _ _ _ _ J0.out.r) _ (by rfl)) rfl ⟨rfl, below_setRow J0.out.bel (by omega) _⟩
  · have h0 : ¬ p < 0 := by have : (0 : Int) ≤ ((2 ^ B.length : Nat) : Int) := Int.natCast_nonneg _; omega
    go_enter Tryd.func16, Tryd.ntmps16
    go_upto_region 1 with (first | refine wpList_boxA rfl _ rfl (hc x) rfl ?_ | refine wpList_allocA A25 rfl rfl ?_)
    generalize (w.alloc (.cells (hc x) 39)).alloc (.cells (hc zeros) 39) = W0 at *
    have hsh : (p / 2 ^ B.length != 0) = true := by
      have h2 : (0 : Int) < 2 ^ B.length := Int.pow_pos (by decide)
      have h3 : 1 ≤ p / 2 ^ B.length := Int.le_ediv_of_mul_le h2 (by rw [Int.one_mul]; simpa using hp)
      rw [bne_iff_ne]
      omega
    clear hp hn
    go_wp2_with (first | refine wpList_buildA A25 rfl rfl ?_ | refine wpList_storeA A25 rfl _ _ rfl _ (hc zeros) (by rw [hc_size, zeros_len]) (hc_one _) rfl rfl (hc zeros) (by rw [hc_size, zeros_len]) 39 J0.out.r ?_)
    exact bodyPost_ret (v := .tuple #[.agg (hc zeros), .int .i64 60]) (resAB A25 Tryd.results16 _ _ (w.heap.size + 1) 39 (hc zeros) (by rw [hc_size, zeros_len]) rfl (setRow_heap _ _ _ _ _ _ J0.out.r) _ (by rfl)) rfl ⟨rfl, below_setRow J0.out.bel (by omega) _⟩
theorem check_yes (x : List UInt8) (hx : x.length = 32) (p : Nat) (v : Value) (B : List (List UInt8)) (w : World) (hB : LH w v B) (hn : B.length ≤ 32) (hp : p < 2 ^ B.length) (hK : Kg w) : Calls Tryd.prog 16 #[.agg (hc x), .int .i64 (p : Int), v] w fun e w' => e = .returned (.tuple #[.agg (hc (ckK x p B B.length)), .int .i64 0]) ∧ Below w.heap.size w w' := by
  obtain ⟨ao, cap, rfl⟩ := hB.form
  have J0 : Hid (Cj w ((w.alloc (.cells (hc x) 39)).alloc (.cells (hc zeros) 39)) 39 (ckK x p B 0)) := Cj.start w 39 x
  have KW : Hid (∀ W, Below w.heap.size w W → Kg W) := fun W h => hK.next h
  have h1 : ¬ (32 : Int) < (B.length : Int) := by omega
  have h0 : ¬ (p : Int) < 0 := by omega
  have hsh : ((p : Int) / 2 ^ B.length != 0) = false := by
    have h2 : (p : Int) / 2 ^ B.length = 0 := Int.ediv_eq_zero_of_lt (by omega) (by
      have : ((p : Nat) : Int) < ((2 ^ B.length : Nat) : Int) := by exact_mod_cast hp
      simpa using this)
    rw [h2]
    rfl
  have hp32 : p < 4294967296 := Nat.lt_of_lt_of_le hp (show 2 ^ B.length ≤ 2 ^ 32 from Nat.pow_le_pow_right (by decide) hn)
  have HP0 := hide (show p / 2 ^ 0 = p by simp)
  have HB := hide hB
  have HX := hide (ckK_len hx p B)
  have HN := hide (And.intro hn hp32)
  have LB : (B.length : Int) ≤ 32 := by omega
  clear hB hK hn hp hx hp32
  go_enter Tryd.func16, Tryd.ntmps16
  go_upto_region 1 with (first | refine wpList_boxA rfl _ rfl (hc x) rfl ?_ | refine wpList_allocA A25 rfl rfl ?_)
  generalize (w.alloc (.cells (hc x) 39)).alloc (.cells (hc zeros) 39) = W0 at *
  go_wp2
  clear hsh h1 h0
  go_loopw [1, 9, 26] (fun q _ d wr => ∃ k : Nat, k ≤ B.length ∧ q = .int .i64 ((p / 2 ^ k : Nat) : Int) ∧ d = .int .i64 (k : Int) ∧ Hid (Cj w wr 39 (ckK x p B k))) (fun _ _ d _ => (B.length - intOf d).toNat)
  case atStart => exact ⟨0, Nat.zero_le _, by rw [HP0.out], rfl, J0⟩
  case round =>
    clear J0
    obtain ⟨k, hk, rfl, rfl, J⟩ := hrel
    obtain ⟨hn, hp32⟩ := HN.out
    by_cases hlt : k < B.length
    · obtain ⟨g, off, rfl⟩ := HB.out.base (by omega)
      have h1 : (k : Int) < (B.length : Int) := by omega
      have h2 : (0 : Int) ≤ (k : Int) := by omega
      have e2 : IntKind.i64.wrap ((k : Int) + 1) = k + 1 := wrapI _ (by omega) (by omega)
      have l1 := hide (HB.out.1.at k hlt)
      have l2 := hide (HX.out k)
      have l3 := hide (HX.out (k + 1))
      have R1 := hide ((HB.out.below J.out.bel).range k hlt)
      have KK := hide (And.intro (show k + 1 ≤ B.length by omega) (show ((B.length : Int) - ((k + 1 : Nat) : Int)).toNat < ((B.length : Int) - (k : Int)).toNat by omega))
      have HW := hide (half_way p k)
      have CS := hide (show ckK x p B (k + 1) = if p / 2 ^ k % 2 = 0 then pr (ckK x p B k) (ia B k) else pr (ia B k) (ckK x p B k) from rfl)
      have HP1 := hide fun W hW => pair_any _ _ l2.out l1.out W hW
      have HP2 := hide fun W hW => pair_any _ _ l1.out l2.out W hW
      have hx32 : p / 2 ^ k < 4294967296 := Nat.lt_of_le_of_lt (Nat.div_le_self _ _) hp32
      generalize hY0 : ckK x p B (k + 1) = Y at *
      have HY0 := hide hY0
      clear hY0
      generalize ckK x p B k = X at *
      generalize ia B k = A at *
      generalize p / 2 ^ k = x1 at *
      have h5 : (x1 : Int) / 2 = ((x1 / 2 : Nat) : Int) := by omega
      have h6 : (0 : Int) ≤ (x1 : Int) := by omega
      have h7 : wrap64 ((x1 / 2 : Nat) : Int) = ((x1 / 2 : Nat) : Int) := by unfold wrap64; omega
      have h8 : (x1 : Int) % 2 = ((x1 % 2 : Nat) : Int) := by omega
      have J1 := hide (J.out.next ((Below.refl _ _).alloc (Nat.le_refl _) (.cells (hc A) 39)))
      have b1 := hide (heap_alloc_last wr (.cells (hc A) 39))
      have KEY : (((x1 : Int) % 2 == 0) = true ∧ Y = pr X A) ∨ (((x1 : Int) % 2 == 0) = false ∧ Y = pr A X) := by
        rcases Nat.mod_two_eq_zero_or_one x1 with e | e
        · exact .inl ⟨by rw [h8, e]; rfl, by rw [CS.out, if_pos e]⟩
        · exact .inr ⟨by rw [h8, e]; rfl, by rw [CS.out, if_neg (by omega)]⟩
      generalize x1 / 2 = x2 at *
      clear hlt hk hn hp32 hx32 CS h8
      go_upto_region 8 with (first | refine ET.wpLoad EH rfl _ rfl g (off + k * 32) rfl A l1.out R1.out ?_ | refine wpList_allocA A25 rfl rfl ?_ | refine wpList_store_newA A25 rfl _ _ rfl _ rfl (hc A) (by rw [hc_size, l1.out]) (hc_one _) rfl rfl ?_)
      generalize wr.alloc (.cells (hc A) 39) = W1 at *
      generalize wr.heap.size = g9 at *
      have a1 := hide J1.out.a
      rcases KEY with ⟨t1, hY⟩ | ⟨t1, hY⟩
      · rw [← hY] at HP1
        clear HP2 hY
        go_wp2_with (first | refine wpList_loadA A25 rfl _ rfl w.heap.size rfl (hc X) (by rw [hc_size, l2.out]) 39 a1.out ?_ | refine wpList_loadA A25 rfl _ rfl g9 rfl (hc A) (by rw [hc_size, l1.out]) 39 b1.out ?_ | (go_at_call 30; refine (HP1.out _ (KW.out _ J1.out.bel)).mono ?_; rintro e w3 ⟨rfl, be⟩; have J3 := hide (J1.out.next be); have a3 := hide J3.out.a; clear be) | refine wpList_storeA A25 rfl _ _ rfl _ (hc Y) (by rw [hc_size, l3.out]) (hc_one _) rfl rfl (hc X) (by rw [hc_size, l2.out]) 39 a3.out ?_)
        exact ⟨⟨k + 1, KK.out.1, by rw [← HW.out]; first | rfl | rw [h7], by go_num, by rw [HY0.out]; exact J3.out.put Y⟩, by simpa [intOf] using KK.out.2⟩
      · rw [← hY] at HP2
        clear HP1 hY
        go_wp2_with (first | refine wpList_loadA A25 rfl _ rfl w.heap.size rfl (hc X) (by rw [hc_size, l2.out]) 39 a1.out ?_ | refine wpList_loadA A25 rfl _ rfl g9 rfl (hc A) (by rw [hc_size, l1.out]) 39 b1.out ?_ | (go_at_call 30; refine (HP2.out _ (KW.out _ J1.out.bel)).mono ?_; rintro e w3 ⟨rfl, be⟩; have J3 := hide (J1.out.next be); have a3 := hide J3.out.a; clear be) | refine wpList_storeA A25 rfl _ _ rfl _ (hc Y) (by rw [hc_size, l3.out]) (hc_one _) rfl rfl (hc X) (by rw [hc_size, l2.out]) 39 a3.out ?_)
        exact ⟨⟨k + 1, KK.out.1, by rw [← HW.out]; first | rfl | rw [h7], by go_num, by rw [HY0.out]; exact J3.out.put Y⟩, by simpa [intOf] using KK.out.2⟩
    · have h1 : ¬ (k : Int) < (B.length : Int) := by omega
      have hke : k = B.length := by omega
      subst hke
      have l2 := hide (HX.out B.length)
      generalize hX0 : ckK x p B B.length = X at *
      have HX0 := hide hX0
      clear hX0
      generalize p / 2 ^ B.length = x1 at *
      have a1 := hide J.out.a
      clear hlt hk hn hp32
      go_wp2_with (first | refine wpList_loadA A25 rfl _ rfl w.heap.size rfl (hc X) (by rw [hc_size, l2.out]) 39 a1.out ?_ | refine wpList_storeA A25 rfl _ _ rfl _ (hc X) (by rw [hc_size, l2.out]) (hc_one _) rfl rfl (hc zeros) (by rw [hc_size, zeros_len]) 39 J.out.r ?_)
      exact bodyPost_ret (v := .tuple #[.agg (hc X), .int .i64 0]) (resAB A25 Tryd.results16 _ _ (w.heap.size + 1) 39 (hc X) (by rw [hc_size, l2.out]) rfl (setRow_heap _ _ _ _ _ _ J.out.r) _ (by rfl)) rfl ⟨by rw [HX0.out], below_setRow J.out.bel (by omega) _⟩
end
end Go.Proofs.YthlaibkdcebekaaDoor
namespace Go.Proofs.YthlaibkdcebekaaDoor
open Go.RowKit
open Go.Deep
section
variable {ops : Array Oper} {S : World → Prop} {o : Oper} {a : Act}
theorem yl_load (hw : Region.wanted o (yielded ops a.tmps) = true) {t : TypeId} (x : Operand) (ho : o.op = .load t x) (v : Value) (c : Array Value) (hx : a.eval x = v) (hr : ∀ W, S W → (Instr.loadAt t v).run Tryd.prog W = .ok (.agg c) W) : YieldsIf Tryd.prog ops S o (.agg c) a :=
  .inl ⟨hw, fun W hW => by
    unfold execOp
    simp only [ho, hx, hr W hW, Sem.run_bind, Result.andThen_ok, Sem.run_pure]⟩
theorem yl_eql (hw : Region.wanted o (yielded ops a.tmps) = true) (t : TypeId) (x y : Operand) (t2 : TypeId) (ho : o.op = .binOp .eql t x y t2) (c d : Array Value) (hx : a.eval x = .agg c) (hy : a.eval y = .agg d) (hg : Tryd.prog.eqGuardType Tryd.prog.depth t = false)
    (v : Bool) (hr : ∀ W, (Op.equalIn 10000 t (.agg c) (.agg d)).run Tryd.prog W = .ok v W) : YieldsIf Tryd.prog ops S o (.bool v) a :=
  .inl ⟨hw, fun W _ => by
    unfold execOp
    simp only [ho, hx, hy, Sem.run_bind, run_eqGuard_agg (P := Tryd.prog) W .eql t x y c d hg, run_eql_struct, hr W, Result.andThen_ok, Sem.run_pure]⟩
theorem yl_neq (hw : Region.wanted o (yielded ops a.tmps) = true) (t : TypeId) (x y : Operand) (t2 : TypeId) (ho : o.op = .binOp .neq t x y t2) (c d : Array Value) (hx : a.eval x = .agg c) (hy : a.eval y = .agg d) (hg : Tryd.prog.eqGuardType Tryd.prog.depth t = false)
    (v : Bool) (hr : ∀ W, (Op.equalIn 10000 t (.agg c) (.agg d)).run Tryd.prog W = .ok v W) : YieldsIf Tryd.prog ops S o (.bool !v) a :=
  .inl ⟨hw, fun W _ => by
    unfold execOp
    simp only [ho, hx, hy, Sem.run_bind, run_eqGuard_agg (P := Tryd.prog) W .neq t x y c d hg, run_neq_struct, hr W, Result.andThen_ok, Sem.run_pure]⟩
theorem yl_move (hw : Region.wanted o (yielded ops a.tmps) = true) (x : Operand) (ho : o.op = .move x) (v : Value) (hx : a.eval x = v) : YieldsIf Tryd.prog ops S o v a :=
  .inl ⟨hw, fun W _ => by
    unfold execOp
    simp only [ho, hx, Sem.run_pure]⟩
end
end Go.Proofs.YthlaibkdcebekaaDoor
