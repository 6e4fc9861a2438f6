/- LocateClaims: the law's walk. -/
import Derived.Test.YtofddbjnncgmlaaGreatDoorX47
import Derived.Test.YtofddbjnncgmlaaGreatDoorX39
namespace Go.Proofs.YtofddbjnncgmlaaGreatDoor
open Go.RowKit
open Go.Deep
open Go.Maps
set_option linter.unusedVariables false
set_option linter.unusedSimpArgs false
theorem bs_hd0 (W : World) : (Instr.buildSlice 59 0 #[]).run Tryz.prog W = .ok (.slice (some ⟨W.heap.size, 0, none⟩) 0 0) (W.alloc (.cells #[] 48)) := by kernel_rfl
theorem bs_hr0 (W : World) : (Instr.buildSlice 61 0 #[]).run Tryz.prog W = .ok (.slice (some ⟨W.heap.size, 0, none⟩) 0 0) (W.alloc (.cells #[] 66)) := by kernel_rfl
section
variable {w w1 : World} {ops : Array Oper} {rest : List Oper} {o : Oper} {a : Act} {Q : Exit → Act → World → Prop}
theorem list_run15 (hgd : o.guard = none) {v : Value} (hr : (execOp a.eval o).run Tryz.prog w = .ok (.value v) w1) (hk : wpList Tryz.prog ops Q rest (a.put o.dst v) w1) : wpList Tryz.prog ops Q (o :: rest) a w := by
  refine wpList_plain hgd fun K hK => ?_
  unfold Oper.wp
  rw [hr]
  exact hK _ _ hk
theorem ex_slF15 (x y : Operand) {t : TypeId} (ho : o.op = .slice t x none (some y) none) {vx vy r : Value} (hx : a.eval x = vx) (hy : a.eval y = vy) (hr : (Instr.sliceAt t vx none (some vy) none).run Tryz.prog w = .ok r w) : (execOp a.eval o).run Tryz.prog w = .ok (.value r) w := by
  unfold execOp
  simp only [ho, hx, hy, Option.map_some, Option.map_none, hr, Sem.run_bind, Result.andThen_ok, Sem.run_pure]
end
theorem clm_lt (L : List Hd) : (clm L).1 < M := by
  have h2 : (clm2 L).1 < M := by
    unfold clm2
    split
    · exact M_pos
    · exact sw_lt L _
  unfold clm
  split
  · exact M_pos
  · exact h2
theorem lkdL_get (A : List Hd) (ms : List Bool) (k : Nat) (hk : k < A.length) : (lkdL none A ms)[k]? = some (lkd (if k = 0 then none else (lkdL none A ms)[k - 1]?) (ms.getD k false) A[k]) := by
  rw [List.getElem?_eq_getElem (by rw [lkdL_len]; exact hk), lkdL_at A none ms k hk]
  cases k with
  | zero => rfl
  | succ j => rfl
section
set_option maxRecDepth 10000
set_option maxHeartbeats 2000000
theorem locateClaims_walk (w : World) (hK : Kg w) (v vm : Value) (L : List Hd) (ms : List Bool) (hL : LX KHe w v L) (hM : LB w vm ms) (hn : L.length * 80 ≤ 140737488355328) : Calls Tryz.prog 5 #[v, vm] w fun r w' => r = .returned (.bool true) ∧ Below w.heap.size w w' := by
  obtain ⟨ao, cap, rfl⟩ := hL.form
  obtain ⟨am, capm, rfl, hmc⟩ := hM.form
  have HV := hide hL
  have HM := hide hM
  have O0 : Hid (OX KHe (w.alloc (.cells #[] 48)) (.slice (some ⟨w.heap.size, 0, none⟩) 0 0) []) := World.ownsRow_made w #[] 0 (Nat.zero_le _) (Nat.zero_le _) rfl
  have b0 := (Below.refl w.heap.size w).alloc (Nat.le_refl _) (.cells #[] 48)
  have B0 := hide b0
  have HV0 := hide (hL.below b0)
  have SZ : Hid ((([] : List Hd).length + L.length) * KHe.b ≤ 140737488355328 ∧ ([] : List Hd).length + L.length ≤ maxLen) := by
    refine ⟨by show (0 + L.length) * 80 ≤ _; omega, ?_⟩
    show 0 + L.length ≤ _
    unfold maxLen
    omega
  have KS : Hid (∀ W, Below w.heap.size w W → Kg W) := fun W b => hK.next b
  have HN := hide hn
  clear hL hM hn hmc hK b0
  go_enter Tryz.func5, Tryz.ntmps5
  go_upto_region 2 with ((with_reducible refine at_list ?_); first | refine wp_bs14 rfl _ _ _ rfl #[] (by simp) _ _ (bs_hd0 _) ?_ | (refine Ek.wpAppL KHe rfl _ _ rfl (.slice (some ⟨w.heap.size, 0, none⟩) 0 0) [] rfl O0.out (.slice ao L.length cap) L rfl HV0.out SZ.out.1 SZ.out.2 ?_; intro v3 W3 ho on; have H3 := hide ho; have ON := hide on; clear ho on))
  rw [List.nil_append] at H3
  obtain ⟨a3, c3, rfl⟩ := H3.out.form
  have B3 : Hid (Below w.heap.size w W3) := B0.out.trans (ON.out.below B0.out.size (fun k e => by cases e; exact Nat.le_refl _))
  have F3 : Hid (∀ k, (Value.slice a3 L.length c3).ownBlock = some k → w.heap.size ≤ k) := ON.out.far B0.out.size (fun k e => by cases e; exact Nat.le_refl _)
  clear ON O0 HV0 SZ B0
  by_cases h40 : 40 < L.length
  case' pos =>
    obtain ⟨g3, c', e3⟩ := H3.out.form0 (by omega)
    have e4 : a3 = some ⟨g3, 0, none⟩ := by injection e3
    subst e4
    have hl : (L.take 40).length = 40 := by rw [List.length_take]; omega
    have H4 : Hid (OX KHe W3 (.slice (some ⟨g3, 0, none⟩) (L.take 40).length c3) (L.take 40)) := by
      rw [hl]
      exact H3.out.cut 40 (by omega)
    have hcut : Hid (∀ W, (Instr.sliceAt 59 (.slice (some ⟨g3, 0, none⟩) L.length c3) none (some (.int .i64 40)) none).run Tryz.prog W = .ok (.slice (some ⟨g3, 0, none⟩) (L.take 40).length c3) W) := fun W => by
      have hc : L.length ≤ c3 := by
        obtain ⟨_, _, e, h2, _⟩ := H3.out.read
        cases e
        exact h2
      rw [hl]
      exact Ek.cutF KHe (some ⟨g3, 0, none⟩) L.length c3 40 (by omega) hc W
    have x1 : (L.length : Int) > 40 := by omega
    have A40 := hide (show (L.take 40).length ≤ 40 by omega)
    clear e3 hl H3
    generalize L.take 40 = A at *
    go_upto_region 4 with ((with_reducible refine at_list ?_); first | (refine list_run15 rfl (ex_slF15 _ _ (by rfl) (by rfl) (by rfl) (hcut.out _)) ?_))
    clear hcut x1 h40 HN HV
    have F4 : Hid (∀ k, (Value.slice (some ⟨g3, 0, none⟩) A.length c3).ownBlock = some k → w.heap.size ≤ k) := fun k e => F3.out k (by cases e; rfl)
    clear F3
    generalize (some (⟨g3, 0, none⟩ : Addr)) = a3 at *
  case' neg =>
    have x1 : ¬ (L.length : Int) > 40 := by omega
    have A40 := hide (show L.length ≤ 40 by omega)
    go_upto_region 4 with fail
    clear x1 h40 HN HV
    have H4 := H3
    have F4 := F3
    clear H3 F3
    generalize L = A at *
  all_goals
    have J0 : Hid (Lin w (W3.alloc (.cells #[] 66)) (.slice a3 A.length c3) (.slice (some ⟨W3.heap.size, 0, none⟩) 0 0) (mxL (lkdL none A ms) A 0) ((lkdL none A ms).take 0)) := by
      have b := (Below.refl W3.heap.size W3).alloc (Nat.le_refl _) (.cells #[] 66)
      rw [mxL_zero]
      refine ⟨H4.out.below b, World.ownsRow_made W3 #[] 0 (Nat.zero_le _) (Nat.zero_le _) rfl, fun g g' e e' q => ?_, F4.out, fun g e => ?_, below_next B3.out b⟩
      · have h1 : g < W3.heap.size := H4.out.lt g e
        have h2 : W3.heap.size = g' := by injection e'
        omega
      · cases e
        exact B3.out.size
    clear H4 F4 B3
    go_upto_region 5 with ((with_reducible refine at_list ?_); refine wp_bs14 rfl _ _ _ rfl #[] (by simp) _ _ (bs_hr0 _) ?_)
    generalize W3.alloc (.cells #[] 66) = W4 at *
    go_upto_region 6 with fail
    have HP := hide (lkdL_len A none ms)
    have PA := hide (lkdL_get A ms)
    generalize lkdL none A ms = P at *
    go_loopw [6, 7] (fun vh i wr => ∃ k : Nat, k ≤ A.length ∧ i = .int .i64 (k : Int) ∧ Hid (Lin w wr (.slice a3 A.length c3) vh (mxL P A k) (P.take k))) (fun _ i _ => (A.length - intOf i).toNat)
    case atStart => exact ⟨0, Nat.zero_le _, rfl, J0⟩
    case round =>
      clear J0
      obtain ⟨k, hk, rfl, J⟩ := hrel
      by_cases hlt : k < A.length
      · obtain ⟨g3, c', e3⟩ := J.out.i.form0 (by rw [mxL_len HP.out k hk]; omega)
        have e4 : a3 = some ⟨g3, 0, none⟩ := by injection e3
        subst e4
        clear e3
        have x1 : (k : Int) < (A.length : Int) := by omega
        have x2 : (0 : Int) ≤ (k : Int) := by omega
        have x6 : IntKind.i64.wrap ((k : Int) + 1) = (k : Int) + 1 := wrapI _ (by omega) (by have := A40.out; omega)
        cases hb : ms.getD k false
        · have PX : Hid (P[k]? = some A[k]) := by
            have := PA.out k hlt
            rw [hb, lkd_no] at this
            exact this
          have J2 : Hid (Lin w wr (.slice (some ⟨g3, 0, none⟩) A.length c3) u6 (mxL P A (k + 1)) (P.take k)) := by
            show Lin _ _ _ _ _ _
            rw [← mxL_set HP.out k hlt A[k] PX.out]
            have e : (mxL P A k).set k A[k] = mxL P A k := by
              have := mxL_at HP.out k hlt
              rw [← this]
              exact List.set_getElem_self _
            rw [e]
            exact J.out
          have RG : Hid (wr.rangeAt g3 (k * 68) A[k].cells) := by
            have h1 := J.out.i.read
            have h2 := LX.range (E := KHe) h1 k (by rw [mxL_len HP.out k (by omega)]; exact hlt)
            rw [mxL_at HP.out k hlt, Nat.zero_add] at h2
            exact h2
          have PT : Hid (P.take (k + 1) = P.take k ++ [A[k]]) := by
            show _ = _
            rw [List.take_add_one, PX.out]
            rfl
          have SZ : Hid (((P.take k).length + 1) * KHr2.b ≤ 140737488355328 ∧ (P.take k).length + 1 ≤ maxLen) := by
            have := A40.out
            have e : (P.take k).length ≤ 40 := by rw [List.length_take]; omega
            refine ⟨by show ((P.take k).length + 1) * 80 ≤ _; omega, ?_⟩
            unfold maxLen
            omega
          have HH := hide (lhead15_any A[k])
          have hMS : k + 1 ≤ A.length := hlt
          have MS := hide hMS
          clear hMS
          clear PX PA hk J
          generalize A[k] = X at *
          have kk : k = 0 ∨ 0 < k := by omega
          have mm : k < ms.length ∨ ¬ k < ms.length := by omega
          rcases mm with mm | mm
          · obtain ⟨gm, om, rfl⟩ := HM.out.base (by omega)
            have c1 : wr.cell? ⟨gm, om + k, none⟩ = some (.bool false) := by
              have := (HM.out.below J2.out.bel).cell k mm
              rwa [hb] at this
            have y1 : (k : Int) < (ms.length : Int) := by omega
            clear hb hlt
            rcases kk with kk | kk
            · have z1 : ¬ (0 : Int) < (k : Int) := by omega
              have z2 : ¬ (k : Int) > 0 := by omega
              clear kk mm
              go_upto_region 13 with fail
              clear z1 z2
              go_wp2_with (first | (go_at_call 22; refine (HH.out _).mono ?_; rintro e W6 ⟨rfl, be⟩; have J6 := hide ((J2.out.next be).next ((Below.refl W6.heap.size W6).alloc (Nat.le_refl _) (.cells (KHr2.enc X).toArray KHr2.e))); clear be) | ((with_reducible refine at_list ?_); first | refine wpLoadHd _ rfl g3 (k * 68) rfl X RG.out (by rfl) ?_ | refine Ek.wpBs1 KHr2 rfl _ rfl X rfl ?_ | (refine Ek.wpApp KHr2 rfl _ _ rfl u6 (P.take k) rfl J6.out.h ⟨_, 0, none⟩ 1 1 [X] rfl rfl (one_newX (E := KHr2) _ X) SZ.out.1 SZ.out.2 ?_; intro v' W7 ho on; have J7 := hide (Lin.grow J6.out on ho); clear ho on)))
              exact ⟨⟨k + 1, MS.out, by go_num, by rw [PT.out]; exact J7⟩, by have := MS.out; simp [intOf]; omega⟩
            · have z1 : (0 : Int) < (k : Int) := by omega
              have z2 : (k : Int) > 0 := by omega
              clear kk mm
              go_upto_region 13 with fail
              clear z1 z2
              go_wp2_with (first | (go_at_call 22; refine (HH.out _).mono ?_; rintro e W6 ⟨rfl, be⟩; have J6 := hide ((J2.out.next be).next ((Below.refl W6.heap.size W6).alloc (Nat.le_refl _) (.cells (KHr2.enc X).toArray KHr2.e))); clear be) | ((with_reducible refine at_list ?_); first | refine wpLoadHd _ rfl g3 (k * 68) rfl X RG.out (by rfl) ?_ | refine Ek.wpBs1 KHr2 rfl _ rfl X rfl ?_ | (refine Ek.wpApp KHr2 rfl _ _ rfl u6 (P.take k) rfl J6.out.h ⟨_, 0, none⟩ 1 1 [X] rfl rfl (one_newX (E := KHr2) _ X) SZ.out.1 SZ.out.2 ?_; intro v' W7 ho on; have J7 := hide (Lin.grow J6.out on ho); clear ho on)))
              exact ⟨⟨k + 1, MS.out, by go_num, by rw [PT.out]; exact J7⟩, by have := MS.out; simp [intOf]; omega⟩
          · have y1 : ¬ (k : Int) < (ms.length : Int) := by omega
            clear hb hlt
            rcases kk with kk | kk
            · have z1 : ¬ (0 : Int) < (k : Int) := by omega
              have z2 : ¬ (k : Int) > 0 := by omega
              clear kk mm
              go_upto_region 13 with fail
              clear z1 z2
              go_wp2_with (first | (go_at_call 22; refine (HH.out _).mono ?_; rintro e W6 ⟨rfl, be⟩; have J6 := hide ((J2.out.next be).next ((Below.refl W6.heap.size W6).alloc (Nat.le_refl _) (.cells (KHr2.enc X).toArray KHr2.e))); clear be) | ((with_reducible refine at_list ?_); first | refine wpLoadHd _ rfl g3 (k * 68) rfl X RG.out (by rfl) ?_ | refine Ek.wpBs1 KHr2 rfl _ rfl X rfl ?_ | (refine Ek.wpApp KHr2 rfl _ _ rfl u6 (P.take k) rfl J6.out.h ⟨_, 0, none⟩ 1 1 [X] rfl rfl (one_newX (E := KHr2) _ X) SZ.out.1 SZ.out.2 ?_; intro v' W7 ho on; have J7 := hide (Lin.grow J6.out on ho); clear ho on)))
              exact ⟨⟨k + 1, MS.out, by go_num, by rw [PT.out]; exact J7⟩, by have := MS.out; simp [intOf]; omega⟩
            · have z1 : (0 : Int) < (k : Int) := by omega
              have z2 : (k : Int) > 0 := by omega
              clear kk mm
              go_upto_region 13 with fail
              clear z1 z2
              go_wp2_with (first | (go_at_call 22; refine (HH.out _).mono ?_; rintro e W6 ⟨rfl, be⟩; have J6 := hide ((J2.out.next be).next ((Below.refl W6.heap.size W6).alloc (Nat.le_refl _) (.cells (KHr2.enc X).toArray KHr2.e))); clear be) | ((with_reducible refine at_list ?_); first | refine wpLoadHd _ rfl g3 (k * 68) rfl X RG.out (by rfl) ?_ | refine Ek.wpBs1 KHr2 rfl _ rfl X rfl ?_ | (refine Ek.wpApp KHr2 rfl _ _ rfl u6 (P.take k) rfl J6.out.h ⟨_, 0, none⟩ 1 1 [X] rfl rfl (one_newX (E := KHr2) _ X) SZ.out.1 SZ.out.2 ?_; intro v' W7 ho on; have J7 := hide (Lin.grow J6.out on ho); clear ho on)))
              exact ⟨⟨k + 1, MS.out, by go_num, by rw [PT.out]; exact J7⟩, by have := MS.out; simp [intOf]; omega⟩
        · have mm : k < ms.length := by
            rcases Nat.lt_or_ge k ms.length with h | h
            · exact h
            · rw [List.getD, List.getElem?_eq_none h] at hb
              cases hb
          obtain ⟨gm, om, rfl⟩ := HM.out.base (by omega)
          have BM : Hid (∀ W, Below w.heap.size w W → W.cell? ⟨gm, om + k, none⟩ = some (.bool true)) := fun W b => by
            have := (HM.out.below b).cell k mm
            rwa [hb] at this
          have y1 : (k : Int) < (ms.length : Int) := by omega
          have CX : Hid ((mxL P A k)[k]? = some A[k]) := by
            show _ = _
            rw [mxL_get HP.out k (by omega), if_neg (by omega), List.getElem?_eq_getElem hlt]
          have CL := hide (mxL_len HP.out k (Nat.le_of_lt hlt))
          have SZ : Hid (((P.take k).length + 1) * KHr2.b ≤ 140737488355328 ∧ (P.take k).length + 1 ≤ maxLen) := by
            have := A40.out
            have e : (P.take k).length ≤ 40 := by rw [List.length_take]; omega
            refine ⟨by show ((P.take k).length + 1) * 80 ≤ _; omega, ?_⟩
            unfold maxLen
            omega
          have PX := PA.out k hlt
          rw [hb] at PX
          have MX : ∀ y, P[k]? = some y → Hid ((mxL P A k).set k y = mxL P A (k + 1)) ∧ Hid (P.take (k + 1) = P.take k ++ [y]) := fun y e => ⟨mxL_set HP.out k hlt y e, by
            show _ = _
            rw [List.take_add_one, e]
            rfl⟩
          have J1 := hide (J.out.re0 CX.out)
          have c1 := BM.out _ J.out.bel
          have hMS : k + 1 ≤ A.length := hlt
          have MS := hide hMS
          have hKL : k < A.length := hlt
          have KL := hide hKL
          clear hMS hKL
          by_cases kk : k = 0
          · have PX2 : P[k]? = some (mineH (A[k].onBits 545259519) 100).1 := by
              rw [if_pos kk, lkd_first] at PX
              exact PX
            obtain ⟨ES, PT⟩ := MX _ PX2
            have HMn : Hid (∀ W, Kg W → Calls Tryz.prog 21 #[.agg (A[k].onBits 545259519).cells.toArray, .int .u64 100] W fun e w' => e = .returned (.tuple #[.agg (mineH (A[k].onBits 545259519) 100).1.cells.toArray, .bool (mineH (A[k].onBits 545259519) 100).2]) ∧ Below W.heap.size W w') := fun W q => mine_any (A[k].onBits 545259519) 100 (by decide) W q
            have HH := hide (lhead15_any (mineH (A[k].onBits 545259519) 100).1)
            clear PX PX2 MX CX hb
            generalize (mineH (A[k].onBits 545259519) 100).2 = B3 at *
            generalize (mineH (A[k].onBits 545259519) 100).1 = X3 at *
            generalize A[k] = X1 at *
            have z1 : ¬ (0 : Int) < (k : Int) := by omega
            have z2 : ¬ (k : Int) > 0 := by omega
            have J7 := J1
            clear hlt kk mm J J1 hk
            generalize hC0 : mxL P A k = C0 at *
            clear hC0
            go_upto_region 10 with fail
            -- bits, and mined
            have c2 := BM.out _ J7.out.bel
            go_upto_region 11 with fail
            have c3 := X1.bits0 (J7.out.reR CL.out KL.out)
            have f3 := (J7.out.reT CL.out KL.out 66 1 (by omega) 0 (by omega)).2
            rw [Nat.add_zero] at f3
            have J8 := hide (J7.out.reC CL.out KL.out (X1.onBits 545259519) 66 (by omega) (.int .u32 545259519) (X1.onBits_cells 545259519))
            go_upto_region 12 with fail
            clear c1 c2 c3 z1 z2 f3 J7
            generalize wr.setCell ⟨g3, k * 68 + 66, none⟩ (.int .u32 545259519) = W8 at *
            have R8 := hide (J8.out.reR CL.out KL.out)
            have HM8 : Hid (∀ W, Kg W → Calls Tryz.prog 21 #[.agg (X1.onBits 545259519).cells.toArray, .int .u64 100] W fun e w' => e = .returned (.tuple #[.agg X3.cells.toArray, .bool B3]) ∧ Below W.heap.size W w') := HMn.out
            have Y3 := hide (And.intro X3.size X3.all)
            generalize X1.onBits 545259519 = X2 at *
            go_upto_region 13 with (first | (go_at_call 21; refine (HM8.out _ (KS.out _ J8.out.bel)).mono ?_; rintro e W9 ⟨rfl, be⟩; have J9 := hide (J8.out.next be); clear be) | ((with_reducible refine at_list ?_); first | refine wpLoadHd _ rfl g3 (k * 68) rfl X2 R8.out (by rfl) ?_ | refine wpList_store_mid rfl 48 _ _ rfl g3 (k * 68) X3.cells.toArray rfl rfl (by rw [Y3.out.1]; exact J9.out.reT CL.out KL.out 0 68 (by omega)) (by rw [Y3.out.1]; kernel_rfl) Y3.out.2 ?_))
            have J2 : Hid (Lin w (W9.setCells g3 (k * 68) X3.cells.toArray.toList) (.slice (some ⟨g3, 0, none⟩) A.length c3) u6 (C0.set k X3) (P.take k)) := J9.out.reM CL.out KL.out X3 0 X3.cells (by rw [X3.len]; omega) (Hd.spl_whole X2 X3)
            clear J9 J8 R8 HM8 HMn
            generalize W9.setCells g3 (k * 68) X3.cells.toArray.toList = W10 at *
            have RG := hide (J2.out.reR CL.out KL.out)
            rw [ES.out] at J2
            go_wp2_with (first | (go_at_call 22; refine (HH.out _).mono ?_; rintro e W16 ⟨rfl, be⟩; have J16 := hide ((J2.out.next be).next ((Below.refl W16.heap.size W16).alloc (Nat.le_refl _) (.cells (KHr2.enc X3).toArray KHr2.e))); clear be) | ((with_reducible refine at_list ?_); first | refine wpLoadHd _ rfl g3 (k * 68) rfl X3 RG.out (by rfl) ?_ | refine Ek.wpBs1 KHr2 rfl _ rfl X3 rfl ?_ | (refine Ek.wpApp KHr2 rfl _ _ rfl u6 (P.take k) rfl J16.out.h ⟨_, 0, none⟩ 1 1 [X3] rfl rfl (one_newX (E := KHr2) _ X3) SZ.out.1 SZ.out.2 ?_; intro v' W17 ho on; have J17 := hide (Lin.grow J16.out on ho); clear ho on)))
            exact ⟨⟨k + 1, MS.out, by go_num, by rw [PT.out]; exact J17⟩, by have := MS.out; simp [intOf]; omega⟩
          · obtain ⟨X0, hX0⟩ : ∃ X0, A[k]'hlt = X0 := ⟨_, rfl⟩
            rw [hX0] at J1 PX
            obtain ⟨Qh, hQ⟩ : ∃ Qh, P[k - 1]? = some Qh := ⟨P[k - 1]'(by have := HP.out; omega), List.getElem?_eq_getElem _⟩
            have CQ : (mxL P A k)[k - 1]? = some Qh := by
              rw [mxL_get HP.out k (by omega), if_pos (by omega)]
              exact hQ
            have RQ := hide (J.out.reQ (k - 1) CQ)
            rw [if_neg kk, hQ, lkd_on] at PX
            obtain ⟨ES, PT⟩ := MX _ PX
            obtain ⟨X1, hX1⟩ : ∃ X1, X1 = X0.onPrev Qh.id Qh.id_len := ⟨_, rfl⟩
            have XC : Hid (X1.cells = spl X0.cells 1 (cellsL Qh.id)) := by
              show _ = _
              rw [hX1]
              exact X0.onPrev_cells _ _
            rw [← hX1] at ES PT PX
            have HMn : Hid (∀ W, Kg W → Calls Tryz.prog 21 #[.agg (X1.onBits 545259519).cells.toArray, .int .u64 100] W fun e w' => e = .returned (.tuple #[.agg (mineH (X1.onBits 545259519) 100).1.cells.toArray, .bool (mineH (X1.onBits 545259519) 100).2]) ∧ Below W.heap.size W w') := fun W q => mine_any (X1.onBits 545259519) 100 (by decide) W q
            have HH := hide (lhead15_any (mineH (X1.onBits 545259519) 100).1)
            have HI : Hid (∀ W, Kg W → Calls Tryz.prog 20 #[.agg Qh.cells.toArray] W fun e w' => e = .returned (.agg (hc Qh.id)) ∧ Below W.heap.size W w') := fun W q => hid_any Qh W q
            have QL := hide Qh.id_len
            clear PX MX CX hb CQ hQ hX1
            generalize (mineH (X1.onBits 545259519) 100).2 = B3 at *
            generalize (mineH (X1.onBits 545259519) 100).1 = X3 at *
            have z1 : (0 : Int) < (k : Int) := by omega
            have z2 : (k : Int) > 0 := by omega
            have x3 : IntKind.i64.wrap ((k : Int) - 1) = ((k - 1 : Nat) : Int) := by rw [show (k : Int) - 1 = ((k - 1 : Nat) : Int) by omega]; exact wrapI _ (by omega) (by have := A40.out; omega)
            have x4 : ((k - 1 : Nat) : Int) < (A.length : Int) := by omega
            have x5 : (0 : Int) ≤ ((k - 1 : Nat) : Int) := by omega
            have JB := hide J.out.bel
            clear hX0 hlt kk mm J hk
            generalize hC0 : mxL P A k = C0 at *
            generalize Qh.id = QI at *
            generalize k - 1 = km at *
            clear hC0
            go_upto_region 9 with fail
            go_upto_region 10 with (first | (go_at_call 20; refine (HI.out _ (KS.out _ JB.out)).mono ?_; rintro e W6 ⟨rfl, be⟩; have J6 := hide (J1.out.next be); clear be) | ((with_reducible refine at_list ?_); first | refine wpLoadHd _ rfl g3 (km * 68) rfl Qh RQ.out (by rfl) ?_ | refine wpList_store_mid rfl 46 _ _ rfl g3 (k * 68 + 1) (hc QI) rfl rfl (by rw [hc_size, QL.out]; exact J6.out.reT CL.out KL.out 1 32 (by omega)) (by rw [hc_size, QL.out]; kernel_rfl) (hc_one _) ?_))
            have J7 : Hid (Lin w (W6.setCells g3 (k * 68 + 1) (hc QI).toList) (.slice (some ⟨g3, 0, none⟩) A.length c3) u6 (C0.set k X1) (P.take k)) := J6.out.reM CL.out KL.out X1 1 (cellsL QI) (by rw [cellsL_len, QL.out]; omega) XC.out
            clear J6 J1 HI RQ XC JB x3 x4 x5 QL
            generalize W6.setCells g3 (k * 68 + 1) (hc QI).toList = W7 at *
            clear c1
            have c1 := BM.out _ J7.out.bel
            -- bits, and mined
            have c2 := BM.out _ J7.out.bel
            go_upto_region 11 with fail
            have c3 := X1.bits0 (J7.out.reR CL.out KL.out)
            have f3 := (J7.out.reT CL.out KL.out 66 1 (by omega) 0 (by omega)).2
            rw [Nat.add_zero] at f3
            have J8 := hide (J7.out.reC CL.out KL.out (X1.onBits 545259519) 66 (by omega) (.int .u32 545259519) (X1.onBits_cells 545259519))
            go_upto_region 12 with fail
            clear c1 c2 c3 z1 z2 f3 J7
            generalize W7.setCell ⟨g3, k * 68 + 66, none⟩ (.int .u32 545259519) = W8 at *
            have R8 := hide (J8.out.reR CL.out KL.out)
            have HM8 : Hid (∀ W, Kg W → Calls Tryz.prog 21 #[.agg (X1.onBits 545259519).cells.toArray, .int .u64 100] W fun e w' => e = .returned (.tuple #[.agg X3.cells.toArray, .bool B3]) ∧ Below W.heap.size W w') := HMn.out
            have Y3 := hide (And.intro X3.size X3.all)
            generalize X1.onBits 545259519 = X2 at *
            go_upto_region 13 with (first | (go_at_call 21; refine (HM8.out _ (KS.out _ J8.out.bel)).mono ?_; rintro e W9 ⟨rfl, be⟩; have J9 := hide (J8.out.next be); clear be) | ((with_reducible refine at_list ?_); first | refine wpLoadHd _ rfl g3 (k * 68) rfl X2 R8.out (by rfl) ?_ | refine wpList_store_mid rfl 48 _ _ rfl g3 (k * 68) X3.cells.toArray rfl rfl (by rw [Y3.out.1]; exact J9.out.reT CL.out KL.out 0 68 (by omega)) (by rw [Y3.out.1]; kernel_rfl) Y3.out.2 ?_))
            have J2 : Hid (Lin w (W9.setCells g3 (k * 68) X3.cells.toArray.toList) (.slice (some ⟨g3, 0, none⟩) A.length c3) u6 (C0.set k X3) (P.take k)) := J9.out.reM CL.out KL.out X3 0 X3.cells (by rw [X3.len]; omega) (Hd.spl_whole X2 X3)
            clear J9 J8 R8 HM8 HMn
            generalize W9.setCells g3 (k * 68) X3.cells.toArray.toList = W10 at *
            have RG := hide (J2.out.reR CL.out KL.out)
            rw [ES.out] at J2
            go_wp2_with (first | (go_at_call 22; refine (HH.out _).mono ?_; rintro e W16 ⟨rfl, be⟩; have J16 := hide ((J2.out.next be).next ((Below.refl W16.heap.size W16).alloc (Nat.le_refl _) (.cells (KHr2.enc X3).toArray KHr2.e))); clear be) | ((with_reducible refine at_list ?_); first | refine wpLoadHd _ rfl g3 (k * 68) rfl X3 RG.out (by rfl) ?_ | refine Ek.wpBs1 KHr2 rfl _ rfl X3 rfl ?_ | (refine Ek.wpApp KHr2 rfl _ _ rfl u6 (P.take k) rfl J16.out.h ⟨_, 0, none⟩ 1 1 [X3] rfl rfl (one_newX (E := KHr2) _ X3) SZ.out.1 SZ.out.2 ?_; intro v' W17 ho on; have J17 := hide (Lin.grow J16.out on ho); clear ho on)))
            exact ⟨⟨k + 1, MS.out, by go_num, by rw [PT.out]; exact J17⟩, by have := MS.out; simp [intOf]; omega⟩
      · have e9 : k = A.length := by omega
        subst e9
        have PL := HP.out
        have JE : Hid (Lin w wr (.slice a3 A.length c3) u6 P P) := by
          have := J.out
          rw [mxL_end PL, List.take_of_length_le (by omega)] at this
          exact this
        have x1 : ¬ (A.length : Int) < (A.length : Int) := by omega
        have L6 : P.length ≤ 1000000 := by have := A40.out; omega
        have HC : Hid (∀ W, Below wr.heap.size wr W → Calls Tryz.prog 23 #[.slice a3 A.length c3] W fun e w' => e = .returned (.tuple #[.agg (wn (clm P).1), .int .i64 (clm P).2.1, .int .i64 (clm P).2.2]) ∧ Below W.heap.size W w') := fun W b => claims_any _ P L6 W (JE.out.next b).i.read (KS.out _ (JE.out.next b).bel)
        have HRC := hide (fun W (b : Below wr.heap.size wr W) => rclaims_any u6 P L6 W (JE.out.next b).h.read (KS.out _ (JE.out.next b).bel))
        have HLk := hide (fun W (b : Below wr.heap.size wr W) => linked_any (.slice a3 A.length c3) P L6 W (JE.out.next b).i.read (KS.out _ (JE.out.next b).bel))
        have HRL := hide (fun W (b : Below wr.heap.size wr W) => rlinked_any u6 P L6 W (JE.out.next b).h.read (KS.out _ (JE.out.next b).bel))
        have HAw := hide (fun W (b : Below wr.heap.size wr W) => awake15 W (KS.out _ (JE.out.next b).bel))
        have EQ : Hid (∀ W, (Op.equalIn 10000 51 (.agg (wn (clm P).1)) (.agg (wn (clm P).1))).run Tryz.prog W = .ok true W) := fun W => by
          have := eqW (clm P).1 (clm P).1 (clm_lt P) (clm_lt P) W
          simpa using this
        have MZ := hide (And.intro (wn_size (clm P).1) (wn_one (clm P).1))
        have BZ := hide (Below.refl wr.heap.size wr)
        have BE := hide JE.out.bel
        clear J JE PL L6 HP PA HM hlt hk
        generalize clm P = CM at *
        generalize lkN P = ap at *
        obtain ⟨CA, CB, CC⟩ := CM
        simp only at HC HRC EQ MZ
        go_upto_region 15 with (first | (go_at_call 23; refine (HC.out _ BZ.out).mono ?_; rintro e W21 ⟨rfl, be⟩; have D1 := hide be; clear be) | ((with_reducible refine at_list ?_); first | refine wpList_allocA AW rfl rfl ?_ | refine wpList_store_newA AW rfl _ _ rfl _ rfl (wn CA) MZ.out.1 MZ.out.2 rfl rfl ?_))
        have R8 := hide (heap_alloc_last W21 (.cells (wn CA) 51))
        have D2 := hide (below_next D1.out ((Below.refl W21.heap.size W21).alloc (Nat.le_refl _) (.cells (wn CA) 51)))
        clear D1
        generalize W21.alloc (.cells (wn CA) 51) = W22 at *
        generalize W21.heap.size = g8 at *
        go_upto_region 16 with (first | (go_at_call 24; refine (HRC.out _ D2.out).mono ?_; rintro e W23 ⟨rfl, be⟩; have D3 := hide (below_next D2.out be); have R83 := hide ((be.block _ (lt_heap R8.out)).trans R8.out); clear be) | ((with_reducible refine at_list ?_); first | refine wpList_allocA AR rfl rfl ?_ | refine wpList_store_newA AR rfl _ _ rfl _ rfl (wn CA) MZ.out.1 MZ.out.2 rfl rfl ?_))
        have R11 := hide (heap_alloc_last W23 (.cells (wn CA) 50))
        have b4 := (Below.refl W23.heap.size W23).alloc (Nat.le_refl _) (.cells (wn CA) 50)
        have D4 := hide (below_next D3.out b4)
        have R84 := hide ((b4.block _ (lt_heap R83.out)).trans R83.out)
        clear D3 R83 R8 D2 b4
        generalize W23.alloc (.cells (wn CA) 50) = W24 at *
        generalize W23.heap.size = g11 at *
        go_wp2_with (first | (go_at_call 25; refine (HAw.out _ D4.out).mono ?_; rintro e W25 ⟨rfl, be⟩; have D5 := hide (below_next D4.out be); have R85 := hide ((be.block _ (lt_heap R84.out)).trans R84.out); have R115 := hide ((be.block _ (lt_heap R11.out)).trans R11.out); clear be) | (go_at_call 26; refine (HLk.out _ D5.out).mono ?_; rintro e W26 ⟨rfl, be⟩; have D6 := hide (below_next D5.out be); have R86 := hide ((be.block _ (lt_heap R85.out)).trans R85.out); have R116 := hide ((be.block _ (lt_heap R115.out)).trans R115.out); clear be) | (go_at_call 27; refine (HRL.out _ D6.out).mono ?_; rintro e W27 ⟨rfl, be⟩; have D7 := hide (below_next D6.out be); have R87 := hide ((be.block _ (lt_heap R86.out)).trans R86.out); have R117 := hide ((be.block _ (lt_heap R116.out)).trans R116.out); clear be) | ((with_reducible refine at_list ?_); first | refine wpList_loadS AW _ rfl g8 rfl (wn CA) MZ.out.1 51 R87.out (by rfl) ?_ | refine wpList_loadS AR _ rfl g11 rfl (wn CA) MZ.out.1 50 R117.out (by rfl) ?_ | refine wpList_eql 51 _ _ _ rfl (wn CA) (wn CA) rfl rfl (by rfl) eqgW true EQ.out ?_))
        go_ret
        exact ⟨rfl, below_next BE.out D7.out⟩
end
end Go.Proofs.YtofddbjnncgmlaaGreatDoor
