/- A list appended to another one; the contracts of the document's Root and of the library's Clone. -/
import Derived.Test.YtlfgeaechckalaaDoorMk
namespace Go.Proofs.YtlfgeaechckalaaDoor
open Go.RowKit
open Go.Deep
/-- The cells of a list that can be read. -/
theorem LH.flat {w : World} {g off n cap : Nat} {L : List (List UInt8)} (h : LH w (.slice (some ⟨g, off, none⟩) n cap) L) : ∀ j u, (flat L)[j]? = some u → w.cell? ((⟨g, off, none⟩ : Addr).add j) = some u := by
  intro j u hu
  have hl := flat_len h.1
  have hj : j < L.length * 32 := by
    have := (List.getElem?_eq_some_iff.1 hu).1
    omega
  have hr := h.range (j / 32) (by omega)
  have e := flat_at h.1 (j / 32) (by omega) (j % 32) (Nat.mod_lt _ (by decide))
  rw [show j / 32 * 32 + j % 32 = j by omega, hu] at e
  have := hr (j % 32) u e.symm
  have hadd : (⟨g, off, none⟩ : Addr).add j = ⟨g, off + j / 32 * 32 + j % 32, none⟩ := by
    rw [show off + j / 32 * 32 + j % 32 = off + j by omega]
    unfold Addr.add
    split <;> simp_all
  rw [hadd]
  exact this
/-- An append of a whole list. -/
theorem ET.appAll {t e : TypeId} (E : ET t e) {w : World} {ty : TypeId} {v s : Value} {L N : List (List UInt8)} (hown : OH e w v L) (hv : v ≠ .slice none 0 0) (hs : LH w s N) (hsm : L.length + N.length ≤ 4398046511104) :
    ∃ v' w', (Builtin.append_ #[t, t] ty #[v, s]).run Tryd.prog w = .ok v' w' ∧ OH e w' v' (L ++ N) ∧ Onto w w' v v' := by
  obtain ⟨ao, cap, rfl⟩ := hs.form
  rcases ao with _ | ⟨g, off, spot⟩
  · have hN : N = [] := by
      rcases N with _ | ⟨x, r⟩
      · rfl
      · obtain ⟨_, ao', cap', e1, _, hat⟩ := hs
        injection e1 with e1
        subst e1
        obtain ⟨g, off, e2, _⟩ := hat 0 (by simp)
        cases e2
    subst hN
    obtain ⟨i0, z, hi, hz0, hzs, hz1, hz2⟩ := E.parts
    rcases hown.2.2 with ⟨rfl, h0⟩ | ⟨gv, capv, cur, rfl, hb, hg, hn, hm, hsz, ht⟩
    · exact absurd rfl hv
    · have hr := run_append_room_src (P := Tryd.prog) w t t ty e i0 E.sl hi gv 0 L.length capv (.slice none 0 cap) 0 [] (Src.ofNil w E.sl cap) (by omega) (fun j hj => by simp at hj) (fun j hj => by simp at hj)
      refine ⟨_, _, hr, ?_, ?_⟩
      · rw [List.append_nil]
        exact hown
      · exact Onto.refl _ _
  · have hspot : spot = none ∨ N = [] := by
      rcases N with _ | ⟨x, r⟩
      · exact .inr rfl
      · obtain ⟨_, ao', cap', e1, _, hat⟩ := hs
        injection e1 with e1
        subst e1
        obtain ⟨g', off', e2, _⟩ := hat 0 (by simp)
        injection e2 with e2
        injection e2 with _ _ e3
        exact .inl e3
    rcases hspot with rfl | rfl
    · exact E.app hown ⟨g, off, none⟩ N.length cap N hs.1 rfl hs.flat hsm
    · exact E.app hown ⟨g, off, spot⟩ 0 cap [] H32.nil rfl (fun j u hu => by simp [flat] at hu) hsm
section
variable {w : World} {ops : Array Oper} {rest : List Oper} {o : Oper} {a : Act} {Q : Exit → Act → World → Prop}
theorem ET.wpAppAll {t e : TypeId} (E : ET t e) (hgd : o.guard = none) (x y : Operand)
    (ho : o.op = .call { callee := .builtin .append, args := #[x, y], argTypes := #[t, t] })
    (v : Value) (L : List (List UInt8)) (hx : a.eval x = v) (hown : OH e w v L) (hv : v ≠ .slice none 0 0)
    (s : Value) (N : List (List UInt8)) (hy : a.eval y = s) (hs : LH w s N) (hsm : L.length + N.length ≤ 4398046511104)
    (h : ∀ v' w', OH e w' v' (L ++ N) → Onto w w' v v' → wpList Tryd.prog ops Q rest (a.put o.dst v') w') :
    wpList Tryd.prog ops Q (o :: rest) a w := by
  refine wpList_plain hgd fun K hK => ?_
  obtain ⟨v', w', hr, h2, h3⟩ := E.appAll (ty := o.type) hown hv hs hsm
  unfold Oper.wp execOp
  simp only [ho, resolve, invoke, builtin, Sem.run_bind, Sem.run_pure, Result.andThen_ok, List.map_toArray, List.map_cons, List.map_nil, hx, hy, hr]
  exact hK _ _ (h v' w' h2 h3)
end
/-- A level of the document's, and an answer's place. -/
structure Rg (w W : World) (v : Value) (L : List (List UInt8)) : Prop where
  lh : LH W v L
  r : W.heap[w.heap.size]? = some (.cells (hc zeros) 24 (0, 0))
  bel : Below w.heap.size w W
theorem Rg.level {w W W' : World} {v v' : Value} {L L' : List (List UInt8)} (j : Rg w W v L) (o : Oj 24 W W' v' L') : Rg w W' v' L' := ⟨o.own.read, (o.bel.block _ (lt_heap j.r)).trans j.r, below_next j.bel o.bel⟩
section
set_option maxRecDepth 10000
set_option maxHeartbeats 2000000
theorem rroot_none (v : Value) (w : World) (hL : LH w v []) : Calls Tryd.prog 9 #[v] w fun e w' => e = .returned (.tuple #[.agg (hc zeros), .bool false]) ∧ Below w.heap.size w w' := by
  obtain ⟨ao, cap, rfl⟩ := hL.form
  have R0 := hide (heap_alloc_last w (.cells (hc zeros) 24))
  have B0 := hide ((Below.refl w.heap.size w).alloc (Nat.le_refl _) (.cells (hc zeros) 24))
  rw [List.length_nil]
  clear hL
  go_enter Tryd.func9, Tryd.ntmps9
  go_upto_region 1 with (refine wpList_allocA A24 rfl rfl ?_)
  generalize w.alloc (.cells (hc zeros) 24) = W0 at *
  go_wp2_with (first | refine wpList_buildA A24 rfl rfl ?_ | refine wpList_storeA A24 rfl _ _ rfl _ (hc zeros) (by rw [hc_size, zeros_len]) (hc_one _) rfl rfl (hc zeros) (by rw [hc_size, zeros_len]) 24 R0.out ?_)
  exact bodyPost_ret (v := .tuple #[.agg (hc zeros), .bool false]) (resAB A24 Tryd.results9 _ _ w.heap.size 24 (hc zeros) (by rw [hc_size, zeros_len]) rfl (setRow_heap _ _ _ _ _ _ R0.out) _ (by rfl)) rfl ⟨rfl, below_setRow B0.out (Nat.le_refl _) _⟩
theorem rroot_some (v : Value) (L : List (List UInt8)) (w : World) (hL : LH w v L) (h0 : 0 < L.length) (hn : L.length < 4294967296) : Calls Tryd.prog 9 #[v] w fun e w' => e = .returned (.tuple #[.agg (hc (rtL L)), .bool (muL L)]) ∧ Below w.heap.size w w' := by
  obtain ⟨ao, cap, rfl⟩ := hL.form
  have J0 : Hid (Rg w (w.alloc (.cells (hc zeros) 24)) (.slice ao L.length cap) (lv L 0)) := ⟨hL.below ((Below.refl _ _).alloc (Nat.le_refl _) _), heap_alloc_last w _, (Below.refl _ _).alloc (Nat.le_refl _) _⟩
  have HN := hide (And.intro h0 hn)
  have H3 := hide hL.1
  have RL := hide (rtL_len hL.1)
  have hne : ((L.length : Int) == 0) = false := by rw [beq_eq_false_iff_ne]; omega
  clear hL h0 hn
  go_enter Tryd.func9, Tryd.ntmps9
  go_upto_region 1 with (refine wpList_allocA A24 rfl rfl ?_)
  generalize w.alloc (.cells (hc zeros) 24) = W0 at *
  go_wp2
  go_loopw [0, 4, 5, 6] (fun v m _ _ wr => ∃ k : Nat, m = .bool (muK L k) ∧ Hid (Rg w wr v (lv L k)) ∧ Hid (dp (lv L k).length + k = dp L.length)) (fun v _ _ _ _ => lenV2 v)
  case atStart => exact ⟨0, rfl, J0, rfl⟩
  case round =>
    clear J0
    obtain ⟨k, rfl, J, HD⟩ := hrel
    obtain ⟨ao4, cap4, rfl⟩ := J.out.lh.form
    have hle := lv_le L k
    have hpos := lv_pos L HN.out.1 k
    have hn := HN.out.2
    by_cases hlt : 1 < (lv L k).length
    · have h1 : (1 : Int) < ((lv L k).length : Int) := by omega
      have HD2 : Hid (dp (lv L (k + 1)).length + (k + 1) = dp L.length) := by
        show _ = _
        rw [← HD.out, dp_step _ hlt, lv, nxt_len]
        omega
      have HS := hide (show muK L (k + 1) = (muK L k || twb (lv L k)) from rfl)
      have HNx := hide fun W hW => rnext_any (.slice ao4 (lv L k).length cap4) (lv L k) W hW (by omega)
      rw [show nxt (lv L k) = lv L (k + 1) from rfl] at HNx
      have ME := hide (show (lv L (k + 1)).length < (lv L k).length by rw [lv, nxt_len]; omega)
      generalize muK L k = mu at *
      generalize twb (lv L k) = tb at *
      clear hlt hle hpos hn hne
      cases mu
      case' false => rw [Bool.false_or] at HS
      case' true => rw [Bool.true_or] at HS
      all_goals
        go_wp2_with (first | (go_at_call 20; refine (HNx.out _ J.out.lh).mono ?_; rintro e w2 ⟨v2, rfl, o2⟩; have J2 := hide (J.out.level o2); clear o2))
        obtain ⟨ao2, cap2, rfl⟩ := J2.out.lh.form
        exact ⟨⟨k + 1, by rw [HS.out], J2, HD2⟩, by simpa [lenV2] using ME.out⟩
    · have h1 : ¬ (1 : Int) < ((lv L k).length : Int) := by omega
      have hl1 : (lv L k).length = 1 := by omega
      have hk : k = dp L.length := by
        have := HD.out
        rw [hl1, dp_low 1 (by omega)] at this
        omega
      have hrt : rtL L = ia (lv L k) 0 := by
        unfold rtL
        rw [if_neg (fun h => by rw [h] at hpos; have := HN.out.1; rw [h] at this; simp at this), hk]
      have hmu : muL L = muK L k := by unfold muL; rw [hk]
      obtain ⟨g, off, rfl⟩ := J.out.lh.base hpos
      have R1 := hide (J.out.lh.range 0 hpos)
      rw [← hrt] at R1
      have h2 : (0 : Int) < ((lv L k).length : Int) := by omega
      rw [← hmu]
      generalize hrr : rtL L = rr at *
      generalize hmm : muL L = mm at *
      have HE := hide (And.intro hrr hmm)
      clear hk hrt hmu hlt hle hn hl1 hne hrr hmm
      go_wp2_with (first | refine ET.wpLoad ER rfl _ rfl g _ rfl rr RL.out R1.out ?_ | refine wpList_storeA A24 rfl _ _ rfl _ (hc rr) (by rw [hc_size, RL.out]) (hc_one _) rfl rfl (hc zeros) (by rw [hc_size, zeros_len]) 24 J.out.r ?_)
      exact bodyPost_ret (v := .tuple #[.agg (hc rr), .bool mm]) (resAB A24 Tryd.results9 _ _ w.heap.size 24 (hc rr) (by rw [hc_size, RL.out]) rfl (setRow_heap _ _ _ _ _ _ J.out.r) _ (by rfl)) rfl ⟨by rw [HE.out.1, HE.out.2], below_setRow J.out.bel (Nat.le_refl _) _⟩
theorem clone_any6 (v : Value) (L : List (List UInt8)) (w : World) (hL : LH w v L) (h0 : 0 < L.length) (hn : L.length < 4294967296) : Calls Tryd.prog 34 #[v] w fun e w' => ∃ v', e = .returned v' ∧ Oj 25 w w' v' L := by
  obtain ⟨ao, cap, rfl⟩ := hL.form
  obtain ⟨g, off, rfl⟩ := hL.base h0
  have J0 : Hid (Oj 25 w (w.alloc (.cells #[] 25)) (.slice (some ⟨w.heap.size, 0, none⟩) 0 0) []) := ⟨OH.new0 w, (Below.refl _ _).alloc (Nat.le_refl _) _, fun g hg => by cases hg; exact Nat.le_refl _⟩
  have HL1 := hide (hL.below J0.out.bel)
  have SZ := hide (show ([] : List (List UInt8)).length + L.length ≤ 4398046511104 by simp; omega)
  have hq : (binOp .eql 22 (.slice (some ⟨g, off, none⟩) L.length cap) (.slice none 0 0)).run Tryd.prog w = .ok (.bool false) w := by
    simp only [binOp]
    simp [run_equal_slice_nil (P := Tryd.prog) w 22 25 (some ⟨g, off, none⟩) L.length cap Tryd.underlying22]
  clear hL h0 hn
  go_enter Tryd.func34, Tryd.ntmps34
  go_wp2_with (first | refine ET.wpBs0 EH rfl rfl ?_ | (at_builtin; refine ET.wpAppAll EH rfl _ _ rfl (.slice (some ⟨w.heap.size, 0, none⟩) 0 0) [] rfl J0.out.own (by simp) _ L rfl HL1.out SZ.out ?_; intro v' w3 hown' hon3; have J3 := hide (J0.out.onto hon3 hown')))
  go_ret
  exact ⟨_, rfl, J3.out⟩
end
end Go.Proofs.YtlfgeaechckalaaDoor
