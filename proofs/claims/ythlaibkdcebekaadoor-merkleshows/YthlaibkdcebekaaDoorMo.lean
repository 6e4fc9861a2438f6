/- A list appended to another one; the contracts of the document's Root and of the library's Clone. -/
import Derived.Test.YthlaibkdcebekaaDoorMk
namespace Go.Proofs.YthlaibkdcebekaaDoor
open Go.RowKit
open Go.Deep
/-- The cells of a list that can be read. -/
theorem LH.flat {w : World} {g off n cap : Nat} {L : List (List UInt8)} (h : LH w (.slice (some ⟨g, off, none⟩) n cap) L) : ∀ j u, (flat L)[j]? = some u → w.cell? ((⟨g, off, none⟩ : Addr).add j) = some u := by
  intro j u hu
  have hl := flat_len h.1
  have hj : j < L.length * 32 := by
    have := (List.getElem?_eq_some_iff.1 hu).1
    omega
  have hr := h.range (j / 32) (by omega)
  have e := flat_at h.1 (j / 32) (by omega) (j % 32) (Nat.mod_lt _ (by decide))
  rw [show j / 32 * 32 + j % 32 = j by omega, hu] at e
  have := hr (j % 32) u e.symm
  have hadd : (⟨g, off, none⟩ : Addr).add j = ⟨g, off + j / 32 * 32 + j % 32, none⟩ := by
    rw [show off + j / 32 * 32 + j % 32 = off + j by omega]
    unfold Addr.add
    split <;> simp_all
  rw [hadd]
  exact this
/-- An append of a whole list. -/
theorem ET.appAll {t e : TypeId} (E : ET t e) {w : World} {ty : TypeId} {v s : Value} {L N : List (List UInt8)} (hown : OH e w v L) (hv : v ≠ .slice none 0 0) (hs : LH w s N) (hsm : L.length + N.length ≤ 4398046511104) :
    ∃ v' w', (Builtin.append_ #[t, t] ty #[v, s]).run Tryd.prog w = .ok v' w' ∧ OH e w' v' (L ++ N) ∧ Onto w w' v v' := by
  obtain ⟨ao, cap, rfl⟩ := hs.form
  rcases ao with _ | ⟨g, off, spot⟩
  · have hN : N = [] := by
      rcases N with _ | ⟨x, r⟩
      · rfl
      · obtain ⟨_, ao', cap', e1, _, hat⟩ := hs
        injection e1 with e1
        subst e1
        obtain ⟨g, off, e2, _⟩ := hat 0 (by simp)
        cases e2
    subst hN
    obtain ⟨i0, z, hi, hz0, hzs, hz1, hz2⟩ := E.parts
    rcases hown.2.2 with ⟨rfl, h0⟩ | ⟨gv, capv, cur, rfl, hb, hg, hn, hm, hsz, ht⟩
    · exact absurd rfl hv
    · have hr := run_append_room_src (P := Tryd.prog) w t t ty e i0 E.sl hi gv 0 L.length capv (.slice none 0 cap) 0 [] (Src.ofNil w E.sl cap) (by omega) (fun j hj => by simp at hj) (fun j hj => by simp at hj)
      refine ⟨_, _, hr, ?_, ?_⟩
      · rw [List.append_nil]
        exact hown
      · exact Onto.refl _ _
  · have hspot : spot = none ∨ N = [] := by
      rcases N with _ | ⟨x, r⟩
      · exact .inr rfl
      · obtain ⟨_, ao', cap', e1, _, hat⟩ := hs
        injection e1 with e1
        subst e1
        obtain ⟨g', off', e2, _⟩ := hat 0 (by simp)
        injection e2 with e2
        injection e2 with _ _ e3
        exact .inl e3
    rcases hspot with rfl | rfl
    · exact E.app hown ⟨g, off, none⟩ N.length cap N hs.1 rfl hs.flat hsm
    · exact E.app hown ⟨g, off, spot⟩ 0 cap [] H32.nil rfl (fun j u hu => by simp [flat] at hu) hsm
section
variable {w : World} {ops : Array Oper} {rest : List Oper} {o : Oper} {a : Act} {Q : Exit → Act → World → Prop}
theorem ET.wpAppAll {t e : TypeId} (E : ET t e) (hgd : o.guard = none) (x y : Operand)
    (ho : o.op = .call { callee := .builtin .append, args := #[x, y], argTypes := #[t, t] })
    (v : Value) (L : List (List UInt8)) (hx : a.eval x = v) (hown : OH e w v L) (hv : v ≠ .slice none 0 0)
    (s : Value) (N : List (List UInt8)) (hy : a.eval y = s) (hs : LH w s N) (hsm : L.length + N.length ≤ 4398046511104)
    (h : ∀ v' w', OH e w' v' (L ++ N) → Onto w w' v v' → wpList Tryd.prog ops Q rest (a.put o.dst v') w') :
    wpList Tryd.prog ops Q (o :: rest) a w := by
  refine wpList_plain hgd fun K hK => ?_
  obtain ⟨v', w', hr, h2, h3⟩ := E.appAll (ty := o.type) hown hv hs hsm
  unfold Oper.wp execOp
  simp only [ho, resolve, invoke, builtin, Sem.run_bind, Sem.run_pure, Result.andThen_ok, List.map_toArray, List.map_cons, List.map_nil, hx, hy, hr]
  exact hK _ _ (h v' w' h2 h3)
end
/-- A level of the document's, and an answer's place. -/
structure Rg (w W : World) (v : Value) (L : List (List UInt8)) : Prop where
  lh : LH W v L
  r : W.heap[w.heap.size]? = some (.cells (hc zeros) 38 (0, 0))
  bel : Below w.heap.size w W
theorem Rg.level {w W W' : World} {v v' : Value} {L L' : List (List UInt8)} (j : Rg w W v L) (o : Oj 38 W W' v' L') : Rg w W' v' L' := ⟨o.own.read, (o.bel.block _ (lt_heap j.r)).trans j.r, below_next j.bel o.bel⟩
section
set_option maxRecDepth 10000
set_option maxHeartbeats 2000000
theorem clone_any6 (v : Value) (L : List (List UInt8)) (w : World) (hL : LH w v L) (h0 : 0 < L.length) (hn : L.length < 4294967296) : Calls Tryd.prog 33 #[v] w fun e w' => ∃ v', e = .returned v' ∧ Oj 39 w w' v' L := by
  obtain ⟨ao, cap, rfl⟩ := hL.form
  obtain ⟨g, off, rfl⟩ := hL.base h0
  have J0 : Hid (Oj 39 w (w.alloc (.cells #[] 39)) (.slice (some ⟨w.heap.size, 0, none⟩) 0 0) []) := ⟨OH.new0 w, (Below.refl _ _).alloc (Nat.le_refl _) _, fun g hg => by cases hg; exact Nat.le_refl _⟩
  have HL1 := hide (hL.below J0.out.bel)
  have SZ := hide (show ([] : List (List UInt8)).length + L.length ≤ 4398046511104 by simp; omega)
  have hq : (binOp .eql 22 (.slice (some ⟨g, off, none⟩) L.length cap) (.slice none 0 0)).run Tryd.prog w = .ok (.bool false) w := by
    simp only [binOp]
    simp [run_equal_slice_nil (P := Tryd.prog) w 22 39 (some ⟨g, off, none⟩) L.length cap Tryd.underlying22]
  clear hL h0 hn
  go_enter Tryd.func33, Tryd.ntmps33
  go_wp2_with (first | refine ET.wpBs0 EH rfl rfl ?_ | (at_builtin; refine ET.wpAppAll EH rfl _ _ rfl (.slice (some ⟨w.heap.size, 0, none⟩) 0 0) [] rfl J0.out.own (by simp) _ L rfl HL1.out SZ.out ?_; intro v' w3 hown' hon3; have J3 := hide (J0.out.onto hon3 hown')))
  go_ret
  exact ⟨_, rfl, J3.out⟩
end
end Go.Proofs.YthlaibkdcebekaaDoor
