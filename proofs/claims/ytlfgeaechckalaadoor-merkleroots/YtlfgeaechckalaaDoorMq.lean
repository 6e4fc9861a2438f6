/- The document's Odd: the same list as odd_any's. -/
import Derived.Test.YtlfgeaechckalaaDoorMp
import Derived.Test.YtlfgeaechckalaaDoorMy
namespace Go.Proofs.YtlfgeaechckalaaDoor
open Go.RowKit
open Go.Deep
section
variable {w : World} {ops : Array Oper} {o : Oper} {a : Act} {K : Act → World → Prop} {Q : Exit → Act → World → Prop} {E0 : Prop}
/-- An append of a whole list, as one step of a region that draws. -/
theorem ET.stepAll {t e : TypeId} (E : ET t e) (hgd : o.guard = none) (x y : Operand)
    (ho : o.op = .call { callee := .builtin .append, args := #[x, y], argTypes := #[t, t] })
    (v : Value) (L : List (List UInt8)) (hx : a.eval x = v) (hown : OH e w v L) (hv : v ≠ .slice none 0 0)
    (s : Value) (N : List (List UInt8)) (hy : a.eval y = s) (hs : LH w s N) (hsm : L.length + N.length ≤ 4398046511104)
    (h : ∀ v' w', OH e w' v' (L ++ N) → Onto w w' v v' → K (a.put o.dst v') w') :
    if Region.wanted o (yielded ops a.tmps) = true then Oper.wp Tryd.prog o a w K Q else E0 := by
  have hw : Region.wanted o (yielded ops a.tmps) = true := by simp [Region.wanted, hgd]
  rw [if_pos hw]
  obtain ⟨v', w', hr, h2, h3⟩ := E.appAll (ty := o.type) hown hv hs hsm
  unfold Oper.wp execOp
  simp only [ho, resolve, invoke, builtin, Sem.run_bind, Sem.run_pure, Result.andThen_ok, List.map_toArray, List.map_cons, List.map_nil, hx, hy, hr]
  exact h v' w' h2 h3
/-- A new empty list, as one step of a region that draws. -/
theorem ET.stepBs0 {t e : TypeId} (E : ET t e) (hgd : o.guard = none) (ho : o.op = .buildSlice t 0 #[])
    (hk : K (a.put o.dst (.slice (some ⟨w.heap.size, 0, none⟩) 0 0)) (w.alloc (.cells #[] e))) :
    if Region.wanted o (yielded ops a.tmps) = true then Oper.wp Tryd.prog o a w K Q else E0 := by
  have hw : Region.wanted o (yielded ops a.tmps) = true := by simp [Region.wanted, hgd]
  rw [if_pos hw]
  unfold Oper.wp execOp
  simp only [ho, List.map_toArray, List.map_nil, E.bs0 w, Sem.run_bind, Result.andThen_ok, Sem.run_pure]
  exact hk
end
section
set_option maxRecDepth 10000
set_option maxHeartbeats 4000000
theorem rodd_any (v : Value) (L : List (List UInt8)) (w : World) (hL : LH w v L) (hn : L.length ≤ 300) : Calls Tryd.prog 16 #[v] w fun e w' => ∃ v', e = .returned v' ∧ LH w' v' (odL L) ∧ Below w.heap.size w w' := by
  obtain ⟨ao, cap, rfl⟩ := hL.form
  have hcap : L.length ≤ cap := by
    obtain ⟨_, _, _, e, h2, _⟩ := hL
    injection e with e1 e2 e3
    omega
  have HL := hide hL
  have HN := hide (And.intro hn hcap)
  have HOD := hide (show odL L = L ++ L.drop (L.length - odN L.length) from rfl)
  have H0 : Hid (rod 10 L.length 1 = odN L.length) := by
    show _ = _
    by_cases h0 : 0 < L.length
    · exact (rod_facts L.length h0 hn).1
    · rw [show L.length = 0 by omega]
      decide
  clear hL hn hcap
  go_enter Tryd.func16, Tryd.ntmps16
  go_wp2
  go_loop [3, 4] (fun x _ => ∃ f m : Nat, 0 < m ∧ m < 600 ∧ 512 < m * 2 ^ f ∧ x = .int .i64 (m : Int) ∧ Hid (rod f L.length m = odN L.length)) (fun x _ => 600 - (intOf x).toNat)
  case atStart => exact ⟨10, 1, by omega, by omega, by decide, rfl, H0⟩
  case round =>
    clear H0
    obtain ⟨f, m, hm0, hm1, hf, rfl, HW⟩ := hrel
    have hn := HN.out.1
    by_cases hlt : m < L.length
    · have h1 : (m : Int) < (L.length : Int) := by omega
      have e1 : IntKind.i64.wrap ((L.length : Int) + (m : Int)) = ((L.length + m : Nat) : Int) := by rw [wrapI _ (by omega) (by omega)]; omega
      have e2 : IntKind.i64.wrap (((L.length + m : Nat) : Int) - 1) = ((L.length + m - 1 : Nat) : Int) := by rw [wrapI _ (by omega) (by omega)]; omega
      have hm2 : ((m : Int) == 0) = false := by rw [beq_eq_false_iff_ne]; omega
      have hm3 : ¬ (m : Int) = 0 := by omega
      have hm4 : (0 : Int) ≤ (m : Int) := by omega
      go_upto_region 5 with fail
      have hdv : ((L.length : Int) + (m : Int) - 1) / (m : Int) = (((L.length + m - 1) / m : Nat) : Int) := by
        rw [Int.natCast_ediv]
        congr 1
        omega
      have c1 : (L.length + m - 1) / m * m ≤ L.length + m - 1 := Nat.div_mul_le_self _ _
      have c2 : 1 ≤ (L.length + m - 1) / m := (Nat.le_div_iff_mul_le hm0).2 (by omega)
      have c3 : (L.length + m - 1) / m ≤ L.length + m - 1 := Nat.div_le_self _ _
      have hf0 : f ≠ 0 := fun h => by rw [h] at hf; omega
      obtain ⟨f', rfl⟩ : ∃ f', f = f' + 1 := ⟨f - 1, by omega⟩
      have hrod := HW.out
      rw [rod, if_pos hlt] at hrod
      rw [hdv]
      have hf2 : 512 < 2 * m * 2 ^ f' := by rw [Nat.pow_succ'] at hf; rw [Nat.mul_comm 2 m, Nat.mul_assoc]; exact hf
      clear hdv hf hf0 e1 e2 hm2 hm3 hm4
      obtain ⟨c, hcc⟩ : ∃ c, c = (L.length + m - 1) / m := ⟨_, rfl⟩
      rw [← hcc] at c1 c2 c3 hrod ⊢
      clear hcc
      by_cases hod : c % 2 = 1
      · rw [if_pos hod] at hrod
        have k1 : (c : Int) % 2 = 1 := by omega
        obtain ⟨p, hp⟩ : ∃ p, p = (c - 1) * m := ⟨_, rfl⟩
        rw [← hp] at hrod
        have hp2 : p + m = c * m := by
          rw [hp, show c * m = (c - 1 + 1) * m by rw [Nat.sub_add_cancel c2], Nat.succ_mul]
        have hpl : p < L.length := by omega
        have hdr : L.length - odN L.length = p := by omega
        have HOL : Hid (odL L = L ++ L.drop p) := by
          show _ = _
          rw [HOD.out, hdr]
        obtain ⟨g, off, rfl⟩ := HL.out.base (by omega)
        have hcap := HN.out.2
        have L4 := hide (HL.out.drop (m := p) (by omega))
        have w1 : IntKind.i64.wrap ((c : Int) - 1) = ((c - 1 : Nat) : Int) := by rw [wrapI _ (by omega) (by omega)]; omega
        have w2 : IntKind.i64.wrap (((c - 1 : Nat) : Int) * (m : Int)) = (p : Int) := by
          have : ((c - 1 : Nat) : Int) * (m : Int) = (p : Int) := by rw [hp, Int.natCast_mul]
          rw [this, wrapI _ (by omega) (by omega)]
        have b1 : (0 : Int) ≤ (p : Int) := by omega
        have b2 : (p : Int) ≤ (L.length : Int) := by omega
        have b3 : (L.length : Int) ≤ (cap : Int) := by omega
        have b4 : ¬ cap = p := by omega
        have b5 : p ≤ L.length := by omega
        have SZ1 := hide (show ([] : List (List UInt8)).length + L.length ≤ 4398046511104 by simp; omega)
        have SZ2 := hide (show L.length + (L.drop p).length ≤ 4398046511104 by rw [List.length_drop]; omega)
        have HNE := hide (show L ≠ [] from fun h => by rw [h] at hpl; simp at hpl)
        clear hod hrod hp hp2 hdr HW hm0 hm1 hlt c1 c2 c3 hn h1 HOD hcap
        go_upto_region 6 with fail
        · refine wp_region_held_drew (S := fun _ => True) (by kernel_rfl) trivial (fun hH => ?_)
          refine wpAnyH_take (i := 1) (v := (.slice (some ⟨g, off, none⟩) L.length cap)) rfl (by kernel_rfl) (by kernel_rfl) (by kernel_rfl) (fun _ _ _ h => h) (yl_move (by rfl) _ (by rfl) _ (by rfl)) hH ?_
          change wpAnyH _ _ _ _ _ _ _ (Act.put _ (some 22) _) _
          simp only [Act.put, List.setIfInBounds_toArray, List.set_cons_zero, List.set_cons_succ]
          refine wpAnyH_take (i := 3) (v := (.slice (some ⟨g, off, none⟩) L.length cap)) rfl (by kernel_rfl) (by kernel_rfl) (by kernel_rfl) (fun _ _ _ h => h) (yl_move (by rfl) _ (by rfl) _ (by rfl)) hH ?_
          change wpAnyH _ _ _ _ _ _ _ (Act.put _ (some 24) _) _
          simp only [Act.put, List.setIfInBounds_toArray, List.set_cons_zero, List.set_cons_succ]
          refine wpAnyH_take (i := 4) (v := (.int .i64 (c : Int))) rfl (by kernel_rfl) (by kernel_rfl) (by kernel_rfl) (fun _ _ _ h => h) (yl_move (by rfl) _ (by rfl) _ (by rfl)) hH ?_
          change wpAnyH _ _ _ _ _ _ _ (Act.put _ (some 25) _) _
          simp only [Act.put, List.setIfInBounds_toArray, List.set_cons_zero, List.set_cons_succ]
          refine wpAnyH_take (i := 5) (v := (.int .i64 ((c - 1 : Nat) : Int))) rfl (by kernel_rfl) (by kernel_rfl) (by kernel_rfl) (fun _ _ _ h => h) (.inl ⟨by rfl, fun W _ => by go_simp⟩) hH ?_
          change wpAnyH _ _ _ _ _ _ _ (Act.put _ (some 26) _) _
          simp only [Act.put, List.setIfInBounds_toArray, List.set_cons_zero, List.set_cons_succ]
          refine wpAnyH_take (i := 6) (v := (.int .i64 (m : Int))) rfl (by kernel_rfl) (by kernel_rfl) (by kernel_rfl) (fun _ _ _ h => h) (yl_move (by rfl) _ (by rfl) _ (by rfl)) hH ?_
          change wpAnyH _ _ _ _ _ _ _ (Act.put _ (some 27) _) _
          simp only [Act.put, List.setIfInBounds_toArray, List.set_cons_zero, List.set_cons_succ]
          refine wpAnyH_take (i := 7) (v := (.int .i64 (p : Int))) rfl (by kernel_rfl) (by kernel_rfl) (by kernel_rfl) (fun _ _ _ h => h) (.inl ⟨by rfl, fun W _ => by go_simp⟩) hH ?_
          change wpAnyH _ _ _ _ _ _ _ (Act.put _ (some 28) _) _
          simp only [Act.put, List.setIfInBounds_toArray, List.set_cons_zero, List.set_cons_succ]
          refine wpAnyH_take (i := 8) (v := (.slice (some ⟨g, off + p * 32, none⟩) (L.length - p) (cap - p))) rfl (by kernel_rfl) (by kernel_rfl) (by kernel_rfl) (fun _ _ _ h => h) (.inl ⟨by rfl, fun W _ => by go_simp⟩) hH ?_
          change wpAnyH _ _ _ _ _ _ _ (Act.put _ (some 29) _) _
          simp only [Act.put, List.setIfInBounds_toArray, List.set_cons_zero, List.set_cons_succ]
          have B0 : Below w.heap.size w w.drew := (Below.refl _ _).drew
          have J0 : Hid (Oj 24 w (w.drew.alloc (.cells #[] 24)) (.slice (some ⟨w.drew.heap.size, 0, none⟩) 0 0) []) := ⟨OH.new0 _, B0.alloc (Nat.le_refl _) _, fun g hg => by cases hg; exact Nat.le_refl _⟩
          refine wpAnyH_ready (rs := [0]) (by kernel_rfl) (by simp) (AllReadyH.cons rfl (fun K1 hK1 => ?_) AllReadyH.nil)
          refine ET.stepBs0 ER (by rfl) (by rfl) ?_
          refine hK1.out _ _ trivial (fun hH => ?_)
          clear hK1
          change wpAnyH _ _ _ _ _ _ _ (Act.put _ (some 21) _) _
          simp only [Act.put, List.setIfInBounds_toArray, List.set_cons_zero, List.set_cons_succ]
          refine wpAnyH_ready (rs := [2]) (by kernel_rfl) (by simp) (AllReadyH.cons rfl (fun K1 hK1 => ?_) AllReadyH.nil)
          refine ET.stepAll ER (by rfl) _ _ (by rfl) (.slice (some ⟨w.drew.heap.size, 0, none⟩) 0 0) [] (by rfl) J0.out.own (by simp) (.slice (some ⟨g, off, none⟩) L.length cap) L (by rfl) (HL.out.below J0.out.bel) SZ1.out ?_
          intro v3 w3 hown3 hon3
          have N3 := hide (show v3 ≠ .slice none 0 0 from own_some hown3 (by simpa using HNE.out))
          have J3 := hide (J0.out.onto hon3 hown3)
          clear hown3 hon3
          rw [List.nil_append] at J3
          refine hK1.out _ _ trivial (fun hH => ?_)
          clear hK1
          change wpAnyH _ _ _ _ _ _ _ (Act.put _ (some 23) _) _
          simp only [Act.put, List.setIfInBounds_toArray, List.set_cons_zero, List.set_cons_succ]
          refine wpAnyH_ready (rs := [9]) (by kernel_rfl) (by simp) (AllReadyH.cons rfl (fun K1 hK1 => ?_) AllReadyH.nil)
          refine ET.stepAll ER (by rfl) _ _ (by rfl) v3 L (by rfl) J3.out.own N3.out (.slice (some ⟨g, off + p * 32, none⟩) (L.length - p) (cap - p)) (L.drop p) (by rfl) (L4.out.below J3.out.bel) SZ2.out ?_
          intro v5 w5 hown5 hon5
          have J5 := hide (J3.out.onto hon5 hown5)
          clear hown5 hon5
          refine hK1.out _ _ trivial (fun hH => ?_)
          clear hK1
          change wpAnyH _ _ _ _ _ _ _ (Act.put _ (some 30) _) _
          simp only [Act.put, List.setIfInBounds_toArray, List.set_cons_zero, List.set_cons_succ]
          refine wpAnyH_take (i := 10) (v := v5) rfl (by kernel_rfl) (by kernel_rfl) (by kernel_rfl) (fun _ _ _ h => h) (.inl ⟨by rfl, fun W _ => by go_simp⟩) hH ?_
          change wpAnyH _ _ _ _ _ _ _ (Act.put _ (some 2) _) _
          simp only [Act.put, List.setIfInBounds_toArray, List.set_cons_zero, List.set_cons_succ]
          refine wpAnyH_done (by kernel_rfl) ?_ _
          go_wp2
          go_ret
          exact ⟨_, rfl, by rw [HOL.out]; exact J5.out.own.read, J5.out.bel⟩
      · rw [if_neg hod] at hrod
        have k1 : ¬ (c : Int) % 2 = 1 := by omega
        have w1 : IntKind.i64.wrap ((m : Int) * 2) = ((2 * m : Nat) : Int) := by rw [wrapI _ (by omega) (by omega)]; omega
        have HW2 := hide hrod
        clear hod hrod HW c1 c2 c3
        go_wp2
        go_round
        case rel => exact ⟨f', 2 * m, by omega, by omega, hf2, by first | rfl | (congr 1; omega), HW2⟩
        case measure => simp [intOf]; omega
    · have h1 : ¬ (m : Int) < (L.length : Int) := by omega
      have hod : odN L.length = 0 := by
        rw [← HW.out]
        cases f
        · rfl
        · rw [rod, if_neg hlt]
      have HR : Hid (LH w (.slice ao L.length cap) (odL L)) := by
        show LH _ _ _
        rw [HOD.out, hod, Nat.sub_zero, List.drop_length, List.append_nil]
        exact HL.out
      clear hod hlt HW hf hm0 hm1 hn
      go_wp2
      go_ret
      exact ⟨_, rfl, HR.out, Below.refl _ _⟩
end
end Go.Proofs.YtlfgeaechckalaaDoor
