/- The block that the law's awake has connected is made: fine: its contract. -/
import Derived.Test.YtcoojkpimbddlaaGreatDoorP0
import Derived.Test.YtcoojkpimbddlaaGreatDoorX47
namespace Go.Proofs.YtcoojkpimbddlaaGreatDoor
open Go.RowKit
open Go.Deep
open Go.Maps
set_option linter.unusedVariables false
set_option linter.unusedSimpArgs false
theorem app_none17 (g : Nat) (ty : TypeId) (W : World) : (Builtin.append_ #[60, 60] ty #[.slice (some ⟨g, 0, none⟩) 1 1, .slice none 0 0]).run Tryz.prog W = .ok (.slice (some ⟨g, 0, none⟩) 1 1) W := by kernel_rfl
theorem ex_app17 {a : Act} {o : Oper} {w : World} {t : TypeId} (s x : Operand) (ho : o.op = .call { callee := .builtin .append, args := #[s, x], argTypes := #[t, t] }) (vs vx v : Value) (hs : a.eval s = vs) (hx : a.eval x = vx) (hr : (Builtin.append_ #[t, t] o.type #[vs, vx]).run Tryz.prog w = .ok v w) : (execOp a.eval o).run Tryz.prog w = .ok (.value v) w := by
  unfold execOp
  simp only [ho, resolve, invoke, builtin, Sem.run_bind, Sem.run_pure, Result.andThen_ok, List.map_toArray, List.map_cons, List.map_nil, hs, hx, hr]
theorem bld_o17 (W : World) : (Instr.build 156 #[(0, .int .u64 5000)]).run Tryz.prog W = .ok (.agg o17.cells.toArray) W := by kernel_rfl
section
set_option maxRecDepth 10000
set_option maxHeartbeats 8000000
theorem fine17 (w : World) (hK : Kg w) : Calls Tryz.prog 102 #[.int .i64 1, .agg (gH.at 1).cells.toArray, .int .u32 60, .slice none 0 0] w fun e w' => ∃ ao cap y lo hi, e = .returned (.tuple #[.agg (bkA (h17.at 2) (.slice ao 1 cap)), .bool true]) ∧ (w.heap.size ≤ lo ∧ hi ≤ w'.heap.size ∧ lo ≤ hi ∧ ∀ W' : World, (∀ g, lo ≤ g → g < hi → W'.heap[g]? = w'.heap[g]?) → LQ W' (.slice ao 1 cap) [y]) ∧ y.m = T17 ∧ Below w.heap.size w w' := by
  have s1 : (w.alloc (.cells (gH.at 1).cells.toArray 48)).heap.size = w.heap.size + 1 := by simp
  have r5 := (Below.heap_alloc _ (.cells (bkA zHd (.slice none 0 0)) 62) _ (lt_heap (heap_alloc_last w (.cells (gH.at 1).cells.toArray 48)))).trans (heap_alloc_last w (.cells (gH.at 1).cells.toArray 48))
  have r8 := heap_alloc_last (w.alloc (.cells (gH.at 1).cells.toArray 48)) (.cells (bkA zHd (.slice none 0 0)) 62)
  have b1 := ((Below.refl w.heap.size w).alloc (Nat.le_refl _) (.cells (gH.at 1).cells.toArray 48)).alloc (by rw [s1]; omega) (.cells (bkA zHd (.slice none 0 0)) 62)
  rw [s1] at r8
  have R5 := hide r5
  have R8 := hide r8
  have B1 := hide b1
  have KS : Hid (∀ W, Below w.heap.size w W → Kg W) := fun W b => hK.next b
  have HR : Hid (∀ W, Calls Tryz.prog 87 #[.int .i64 1] W fun e w' => e = .returned (.int .u64 5000) ∧ w' = W) := fun W => reward_any 1 (by omega) (by omega) W
  have HC : Hid (∀ W v, LX KO W v [o17] → Calls Tryz.prog 74 #[.int .i64 1, .string ⟨#[120]⟩, v] W fun e w' => ∃ ai ci ao co, e = .returned (.tuple #[.agg (T17.cells ai ci ao co), .int .i64 0]) ∧ LT w' T17 ai ci ao co ∧ Below W.heap.size W w') := fun W v l => cbase_yes 1 ⟨#[120]⟩ v [o17] W (by omega) (by decide) l (by decide)
  have HI : Hid (∀ W, Kg W → Calls Tryz.prog 46 #[.agg (gH.at 1).cells.toArray] W fun e w' => e = .returned (.agg (hc (gH.at 1).id)) ∧ Below W.heap.size W w') := fun W q => hid_any (gH.at 1) W q
  have HB := hide (fun x hm v W l q => build17 x hm v W l q)
  have BO := hide bld_o17
  have GZ : Hid (o17.cells.toArray.size = 2) := rfl
  have HZ := hide (And.intro (gH.at 1).size (gH.at 1).all)
  have CB : Hid (∀ (W : World) (g : Nat), W.heap[g]? = some (.cells (gH.at 1).cells.toArray 48 (0, 0)) → W.cell? ⟨g, 65, none⟩ = some (.int .u32 1600000000)) := fun W g e => by
    have q1 := (gH.at 1).time0 (rowAt _ e)
    rw [Nat.zero_add] at q1
    exact q1
  have TZ : Hid (∀ ai ci ao co, (T17.cells ai ci ao co).size = 4) := fun _ _ _ _ => rfl
  have T1 := hide T17.one
  have BZ := hide (fun ao cap => And.intro (bkA_size (h17.at 2) (.slice ao 1 cap)) (bkA_all (h17.at 2) ao 1 cap))
  clear b1 r5 r8 hK
  generalize hHH : (gH.at 1).cells.toArray = CX at *
  clear hHH
  generalize hc (gH.at 1).id = CG at *
  go_enter Tryz.func102, Tryz.ntmps102
  go_upto_region 1 with ((with_reducible refine at_list ?_); first | refine wpList_boxA rfl _ rfl CX rfl ?_ | refine wpList_allocA ABk rfl rfl ?_)
  try rw [s1]
  clear s1
  generalize (w.alloc (.cells CX 48)).alloc (.cells (bkA zHd (.slice none 0 0)) 62) = W0 at *
  have LO := hide (LX.of_row1 KO (heap_alloc_last W0 (.cells (KO.enc o17).toArray 156)))
  have D1 := hide ((Below.refl W0.heap.size W0).alloc (Nat.le_refl _) (.cells (KO.enc o17).toArray 156))
  go_upto_region 2 with (first | (go_at_call 87; refine (HR.out _).mono ?_; rintro e Wz ⟨rfl, hz⟩; subst Wz) | (go_at_call 74; refine (HC.out _ _ LO.out).mono ?_; rintro r W2 ⟨ai, ci, ao, co, rfl, lt, be⟩; have D2 := hide (below_next D1.out be); have LT2 := hide lt; clear be lt) | ((with_reducible refine at_list ?_); first | refine wpList_bldX rfl _ rfl #[(0, .int .u64 5000)] o17.cells.toArray (by simp only [List.map_toArray, List.map_cons, List.map_nil]; rfl) BO.out ?_ | refine Ek.wpBs1 KO rfl _ rfl o17 rfl ?_ | refine wpList_allocA AT rfl rfl ?_ | refine wpList_store_newA AT rfl _ _ rfl _ rfl (T17.cells ai ci ao co) (TZ.out _ _ _ _) (T1.out _ _ _ _) rfl rfl ?_))
  have R2 := hide (heap_alloc_last W2 (.cells (T17.cells ai ci ao co) 152))
  have b3 := (Below.refl W2.heap.size W2).alloc (Nat.le_refl _) (.cells (T17.cells ai ci ao co) 152)
  have D3 := hide (below_next D2.out b3)
  have LT3 := hide (LT2.out.below b3)
  obtain ⟨X, hX⟩ : ∃ X : Tq, X = ⟨T17, ai, ci, ao, co⟩ := ⟨_, rfl⟩
  have XM : Hid (X.m = T17) := by show X.m = T17; rw [hX]
  have XA : T17.cells ai ci ao co = X.arr := by rw [hX]; rfl
  have XT : Hid (LT (W2.alloc (.cells (T17.cells ai ci ao co) 152)) X.m X.ai X.ci X.ao X.co) := by rw [hX]; exact LT3.out
  clear hX
  generalize T17.cells ai ci ao co = CT at *
  subst XA
  clear b3 LT2 LT3 D1 D2 LO HC BO T1 TZ GZ HR
  have XZ : Hid (X.arr.size = 4) := rfl
  have R5b := hide ((D3.out.block _ (lt_heap R5.out)).trans R5.out)
  have R8b := hide ((D3.out.block _ (lt_heap R8.out)).trans R8.out)
  have BW := hide (below_next B1.out D3.out)
  clear R5 R8 B1 D3
  generalize W2.alloc (.cells X.arr 152) = W3 at *
  generalize W2.heap.size = g10 at *
  have LQX : Hid (∀ W, Below W3.heap.size W3 W → LQ (W.alloc (.cells (KT.enc X).toArray KT.e)) (.slice (some ⟨W.heap.size, 0, none⟩) 1 1) [X]) := fun W b => by
    have b' : Below W3.heap.size W3 (W.alloc (.cells (KT.enc X).toArray KT.e)) := b.alloc b.size _
    exact ⟨LX.of_row1 KT (heap_alloc_last W _), fun y hy => by
      rw [List.mem_singleton] at hy
      subst hy
      exact ⟨XT.out.below b', by rw [XM.out]; exact T17_fit⟩⟩
  go_upto_region 4 with fail
  have L8 : Hid (w.heap.size + 1 < W3.heap.size) := lt_heap R8b.out
  go_cut [12, 13] from 26 to 39 (fun s12 s13 wx => ∃ g12 ao cap y lo hi, s12 = .pointer (some ⟨g12, 0, none⟩) ∧ s13 = .int .i64 0 ∧ Hid ((w.heap.size + 1 < lo ∧ hi ≤ wx.heap.size ∧ lo ≤ hi ∧ ∀ W' : World, (∀ g, lo ≤ g → g < hi → W'.heap[g]? = wx.heap[g]?) → LQ W' (.slice ao 1 cap) [y]) ∧ y.m = T17 ∧ wx.heap[g12]? = some (.cells (bkA (h17.at 2) (.slice ao 1 cap)) 62 (0, 0)) ∧ Below W3.heap.size W3 wx))
  case first =>
    have LW0 := hide (Below.refl W3.heap.size W3).drew
    have S3 : Hid (∀ W, Below W3.heap.size W3 W → W.heap[w.heap.size]? = some (.cells CX 48 (0, 0)) ∧ W.heap[g10]? = some (.cells X.arr 152 (0, 0))) := fun W b => ⟨(b.block _ (lt_heap R5b.out)).trans R5b.out, (b.block _ (lt_heap R2.out)).trans R2.out⟩
    refine wp_region_held_drew (S := fun W => Below W3.heap.size W3 W) (by kernel_rfl) LW0.out (fun hH => ?_)
    generalize W3.drew = V0 at *
    have wf : IntKind.u32.wrap 1600000060 = 1600000060 := by rw [IntKind.wrap_u32]; omega
    refine wt (i := 0) (v := (.agg CX)) rfl (yl_load (by rfl) _ (by rfl) _ CX (by rfl) (fun W hS => ld_row AHd HZ.out.1 (S3.out W hS).1)) hH ?_
    change wpAnyH _ _ _ _ _ _ _ (Act.put _ (some 27) _) _
    simp only [Act.put, List.setIfInBounds_toArray, List.set_cons_zero, List.set_cons_succ]
    refine wt (i := 2) (v := (.pointer (some ⟨w.heap.size, 65, none⟩))) rfl (.inl ⟨by rfl, fun W _ => by go_simp⟩) hH ?_
    change wpAnyH _ _ _ _ _ _ _ (Act.put _ (some 29) _) _
    simp only [Act.put, List.setIfInBounds_toArray, List.set_cons_zero, List.set_cons_succ]
    refine wt (i := 3) (v := (.int .u32 1600000000)) rfl (.inl ⟨by rfl, fun W hS => by have c4 := (CB.out _ _ (S3.out W hS).1); go_simp⟩) hH ?_
    change wpAnyH _ _ _ _ _ _ _ (Act.put _ (some 30) _) _
    simp only [Act.put, List.setIfInBounds_toArray, List.set_cons_zero, List.set_cons_succ]
    refine wt (i := 4) (v := (.int .u32 60)) rfl (yl_move (by rfl) _ (by rfl) _ (by rfl)) hH ?_
    change wpAnyH _ _ _ _ _ _ _ (Act.put _ (some 31) _) _
    simp only [Act.put, List.setIfInBounds_toArray, List.set_cons_zero, List.set_cons_succ]
    refine wt (i := 5) (v := (.int .u32 1600000060)) rfl (.inl ⟨by rfl, fun W _ => by go_simp⟩) hH ?_
    change wpAnyH _ _ _ _ _ _ _ (Act.put _ (some 32) _) _
    simp only [Act.put, List.setIfInBounds_toArray, List.set_cons_zero, List.set_cons_succ]
    refine wt (i := 6) (v := (.agg X.arr)) rfl (yl_load (by rfl) _ (by rfl) _ X.arr (by rfl) (fun W hS => ld_row AT XZ.out (S3.out W hS).2)) hH ?_
    change wpAnyH _ _ _ _ _ _ _ (Act.put _ (some 33) _) _
    simp only [Act.put, List.setIfInBounds_toArray, List.set_cons_zero, List.set_cons_succ]
    refine wt (i := 8) (v := (.slice none 0 0)) rfl (yl_move (by rfl) _ (by rfl) _ (by rfl)) hH ?_
    change wpAnyH _ _ _ _ _ _ _ (Act.put _ (some 35) _) _
    simp only [Act.put, List.setIfInBounds_toArray, List.set_cons_zero, List.set_cons_succ]
    refine wpAnyH_ready (rs := [1, 7, 14]) (by kernel_rfl) (by simp) (AllReadyH.cons rfl (fun K1 hK1 => ?_) (AllReadyH.cons rfl (fun K1 hK1 => ?_) (AllReadyH.cons rfl (fun K1 hK1 => ?_) AllReadyH.nil)))
    ·go_simp
     refine (HI.out V0 (KS.out _ (below_next BW.out LW0.out))).mono ?_
     rintro r V1 ⟨rfl, be⟩
     have LW1 := hide (below_next LW0.out be)
     clear be
     refine hK1.out _ _ LW1.out (fun hH => ?_)
     clear hK1
     refine wpAnyH_ready (rs := [7, 14]) (by kernel_rfl) (by simp) (AllReadyH.cons rfl (fun K1 hK1 => ?_) (AllReadyH.cons rfl (fun K1 hK1 => ?_) AllReadyH.nil))
     ·refine Ek.stepBs1 KT (by rfl) _ (by rfl) X (by rfl) ?_
      have be := (Below.refl V1.heap.size V1).alloc (Nat.le_refl _) (.cells (KT.enc X).toArray KT.e)
      have LB2 := hide (LQX.out _ LW1.out)
      have LW2 := hide (below_next LW1.out be)
      clear be
      refine hK1.out _ _ LW2.out (fun hH => ?_)
      clear hK1
      change wpAnyH _ _ _ _ _ _ _ (Act.put _ (some 34) _) _
      simp only [Act.put, List.setIfInBounds_toArray, List.set_cons_zero, List.set_cons_succ]
      generalize V1.alloc (.cells (KT.enc X).toArray KT.e) = V2 at *
      generalize V1.heap.size = gx at *
      refine wpAnyH_ready (rs := [9, 14]) (by kernel_rfl) (by simp) (AllReadyH.cons rfl (fun K1 hK1 => ?_) (AllReadyH.cons rfl (fun K1 hK1 => ?_) AllReadyH.nil))
      ·refine step_run14 (by rfl) (ex_app17 _ _ (by rfl) _ _ _ (by rfl) (by rfl) (app_none17 gx _ _)) ?_
       refine hK1.out _ _ LW2.out (fun hH => ?_)
       clear hK1
       change wpAnyH _ _ _ _ _ _ _ (Act.put _ (some 36) _) _
       simp only [Act.put, List.setIfInBounds_toArray, List.set_cons_zero, List.set_cons_succ]
       refine wpAnyH_ready (rs := [10, 14]) (by kernel_rfl) (by simp) (AllReadyH.cons rfl (fun K1 hK1 => ?_) (AllReadyH.cons rfl (fun K1 hK1 => ?_) AllReadyH.nil))
       ·go_simp
        refine (HB.out X XM.out _ V2 LB2.out (KS.out _ (below_next BW.out LW2.out))).mono ?_
        rintro r V3 ⟨ao, cap, y, rfl, lq, ym, be⟩
        have YM := hide ym
        obtain ⟨lo, hlo⟩ : ∃ lo, lo = V2.heap.size := ⟨_, rfl⟩
        obtain ⟨hi, hhi⟩ : ∃ hi, hi = V3.heap.size := ⟨_, rfl⟩
        have LQS3 : Hid (∀ W' : World, (∀ g, lo ≤ g → g < hi → W'.heap[g]? = V3.heap[g]?) → LQ W' (.slice ao 1 cap) [y]) := by rw [hlo, hhi]; exact lq
        have LOW : Hid (w.heap.size + 1 < lo) := by have q1 := L8.out; have q2 := LW2.out.size; show _ < _; omega
        have HIW3 : Hid (hi ≤ V3.heap.size) := Nat.le_of_eq hhi
        have LHI : Hid (lo ≤ hi) := by rw [hlo, hhi]; exact be.size
        have HL : Hid (hi = V3.heap.size) := hhi
        have LW3 := hide (below_next LW2.out be)
        have LB3 := hide (LB2.out.below be)
        clear be lq ym hlo hhi
        refine hK1.out _ _ LW3.out (fun hH => ?_)
        clear hK1
        refine wt (i := 11) (v := (.tuple #[.agg (bkA (h17.at 2) (.slice ao 1 cap)), .int .i64 0])) rfl (yl_move (by rfl) _ (by rfl) _ (by rfl)) hH ?_
        change wpAnyH _ _ _ _ _ _ _ (Act.put _ (some 26) _) _
        simp only [Act.put, List.setIfInBounds_toArray, List.set_cons_zero, List.set_cons_succ]
        refine wt (i := 12) (v := (.agg (bkA (h17.at 2) (.slice ao 1 cap)))) rfl (.inl ⟨by rfl, fun W _ => by go_simp⟩) hH ?_
        change wpAnyH _ _ _ _ _ _ _ (Act.put _ (some 38) _) _
        simp only [Act.put, List.setIfInBounds_toArray, List.set_cons_zero, List.set_cons_succ]
        refine wt (i := 13) (v := (.int .i64 0)) rfl (.inl ⟨by rfl, fun W _ => by go_simp⟩) hH ?_
        change wpAnyH _ _ _ _ _ _ _ (Act.put _ (some 39) _) _
        simp only [Act.put, List.setIfInBounds_toArray, List.set_cons_zero, List.set_cons_succ]
        refine wpAnyH_ready (rs := [14]) (by kernel_rfl) (by simp) (AllReadyH.cons rfl (fun K1 hK1 => ?_) AllReadyH.nil)
        have be := (Below.refl V3.heap.size V3).alloc (Nat.le_refl _) (.cells (bkA zHd (.slice none 0 0)) 62)
        have LW4 := hide (below_next LW3.out be)
        have RD4 := hide (heap_alloc_last V3 (.cells (bkA zHd (.slice none 0 0)) 62))
        have G12 : Hid (W3.heap.size ≤ V3.heap.size) := LW3.out.size
        have GN : Hid (V3.heap.size < lo ∨ hi ≤ V3.heap.size) := .inr HIW3.out
        have HIW4 : Hid (hi ≤ (V3.alloc (.cells (bkA zHd (.slice none 0 0)) 62)).heap.size) := Nat.le_trans HIW3.out be.size
        have LQS4 : Hid (∀ W' : World, (∀ g, lo ≤ g → g < hi → W'.heap[g]? = (V3.alloc (.cells (bkA zHd (.slice none 0 0)) 62)).heap[g]?) → LQ W' (.slice ao 1 cap) [y]) := fun W' ag => LQS3.out W' (fun g h1 h2 => (ag g h1 h2).trans (be.block g (Nat.lt_of_lt_of_le h2 HIW3.out)))
        clear be
        refine stepAllocA ABk (by rfl) (by rfl) ?_
        refine hK1.out _ _ LW4.out (fun hH => ?_)
        clear hK1
        change wpAnyH _ _ _ _ _ _ _ (Act.put _ (some 12) _) _
        simp only [Act.put, List.setIfInBounds_toArray, List.set_cons_zero, List.set_cons_succ]
        generalize V3.alloc (.cells (bkA zHd (.slice none 0 0)) 62) = V4 at *
        generalize V3.heap.size = g12 at *
        refine wpAnyH_ready (rs := [15]) (by kernel_rfl) (by simp) (AllReadyH.cons rfl (fun K1 hK1 => ?_) AllReadyH.nil)
        refine stepStoreA ABk (by rfl) _ _ (by rfl) g12 (bkA (h17.at 2) (.slice ao 1 cap)) (BZ.out ao cap).1 (BZ.out ao cap).2 (by rfl) (by rfl) (bkA zHd (.slice none 0 0)) (bkA_size _ _) _ RD4.out ?_
        have DE := hide (below_setRow LW4.out G12.out (bkA (h17.at 2) (.slice ao 1 cap)))
        have RE := hide (setRow_heap _ _ _ (bkA (h17.at 2) (.slice ao 1 cap)) _ _ RD4.out)
        refine hK1.out _ _ DE.out (fun hH => ?_)
        clear hK1
        change wpAnyH _ _ _ _ _ _ _ (Act.put _ none _) _
        simp only [Act.put]
        refine wt (i := 16) (v := (.int .i64 0)) rfl (.inl ⟨by rfl, fun W _ => by go_simp⟩) hH ?_
        change wpAnyH _ _ _ _ _ _ _ (Act.put _ (some 13) _) _
        simp only [Act.put, List.setIfInBounds_toArray, List.set_cons_zero, List.set_cons_succ]
        refine wpAnyH_done (by kernel_rfl) ?_ _
        go_wp2_with fail
        go_meet
        exact ⟨g12, ao, cap, y, lo, hi, rfl, rfl, ⟨LOW.out, Nat.le_trans HIW4.out (by simp), LHI.out, fun W' ag => LQS4.out W' (fun g h1 h2 => (ag g h1 h2).trans (setRow_other _ _ _ _ (by have := GN.out; omega)))⟩, YM.out, RE.out, DE.out⟩
       ·have be := (Below.refl V2.heap.size V2).alloc (Nat.le_refl _) (.cells (bkA zHd (.slice none 0 0)) 62)
        have LW3 := hide (below_next LW2.out be)
        have LB3 := hide (LB2.out.below be)
        have RD3 := hide (heap_alloc_last V2 (.cells (bkA zHd (.slice none 0 0)) 62))
        have G12 : Hid (W3.heap.size ≤ V2.heap.size) := LW2.out.size
        clear be
        refine stepAllocA ABk (by rfl) (by rfl) ?_
        refine hK1.out _ _ LW3.out (fun hH => ?_)
        clear hK1
        change wpAnyH _ _ _ _ _ _ _ (Act.put _ (some 12) _) _
        simp only [Act.put, List.setIfInBounds_toArray, List.set_cons_zero, List.set_cons_succ]
        generalize V2.alloc (.cells (bkA zHd (.slice none 0 0)) 62) = V3 at *
        generalize V2.heap.size = g12 at *
        refine wpAnyH_ready (rs := [10]) (by kernel_rfl) (by simp) (AllReadyH.cons rfl (fun K1 hK1 => ?_) AllReadyH.nil)
        go_simp
        refine (HB.out X XM.out _ V3 LB3.out (KS.out _ (below_next BW.out LW3.out))).mono ?_
        rintro r V4 ⟨ao, cap, y, rfl, lq, ym, be⟩
        have YM := hide ym
        obtain ⟨lo, hlo⟩ : ∃ lo, lo = V3.heap.size := ⟨_, rfl⟩
        obtain ⟨hi, hhi⟩ : ∃ hi, hi = V4.heap.size := ⟨_, rfl⟩
        have LQS4 : Hid (∀ W' : World, (∀ g, lo ≤ g → g < hi → W'.heap[g]? = V4.heap[g]?) → LQ W' (.slice ao 1 cap) [y]) := by rw [hlo, hhi]; exact lq
        have LOW : Hid (w.heap.size + 1 < lo) := by have q1 := L8.out; have q2 := LW3.out.size; show _ < _; omega
        have HIW4 : Hid (hi ≤ V4.heap.size) := Nat.le_of_eq hhi
        have LHI : Hid (lo ≤ hi) := by rw [hlo, hhi]; exact be.size
        have GN : Hid (g12 < lo ∨ hi ≤ g12) := .inl (by have := lt_heap RD3.out; omega)
        have LW4 := hide (below_next LW3.out be)
        have LB4 := hide (LB3.out.below be)
        have RD4 := hide ((be.block _ (lt_heap RD3.out)).trans RD3.out)
        clear be lq ym hlo hhi
        refine hK1.out _ _ LW4.out (fun hH => ?_)
        clear hK1
        refine wt (i := 11) (v := (.tuple #[.agg (bkA (h17.at 2) (.slice ao 1 cap)), .int .i64 0])) rfl (yl_move (by rfl) _ (by rfl) _ (by rfl)) hH ?_
        change wpAnyH _ _ _ _ _ _ _ (Act.put _ (some 26) _) _
        simp only [Act.put, List.setIfInBounds_toArray, List.set_cons_zero, List.set_cons_succ]
        refine wt (i := 12) (v := (.agg (bkA (h17.at 2) (.slice ao 1 cap)))) rfl (.inl ⟨by rfl, fun W _ => by go_simp⟩) hH ?_
        change wpAnyH _ _ _ _ _ _ _ (Act.put _ (some 38) _) _
        simp only [Act.put, List.setIfInBounds_toArray, List.set_cons_zero, List.set_cons_succ]
        refine wt (i := 13) (v := (.int .i64 0)) rfl (.inl ⟨by rfl, fun W _ => by go_simp⟩) hH ?_
        change wpAnyH _ _ _ _ _ _ _ (Act.put _ (some 39) _) _
        simp only [Act.put, List.setIfInBounds_toArray, List.set_cons_zero, List.set_cons_succ]
        refine wpAnyH_ready (rs := [15]) (by kernel_rfl) (by simp) (AllReadyH.cons rfl (fun K1 hK1 => ?_) AllReadyH.nil)
        refine stepStoreA ABk (by rfl) _ _ (by rfl) g12 (bkA (h17.at 2) (.slice ao 1 cap)) (BZ.out ao cap).1 (BZ.out ao cap).2 (by rfl) (by rfl) (bkA zHd (.slice none 0 0)) (bkA_size _ _) _ RD4.out ?_
        have DE := hide (below_setRow LW4.out G12.out (bkA (h17.at 2) (.slice ao 1 cap)))
        have RE := hide (setRow_heap _ _ _ (bkA (h17.at 2) (.slice ao 1 cap)) _ _ RD4.out)
        refine hK1.out _ _ DE.out (fun hH => ?_)
        clear hK1
        change wpAnyH _ _ _ _ _ _ _ (Act.put _ none _) _
        simp only [Act.put]
        refine wt (i := 16) (v := (.int .i64 0)) rfl (.inl ⟨by rfl, fun W _ => by go_simp⟩) hH ?_
        change wpAnyH _ _ _ _ _ _ _ (Act.put _ (some 13) _) _
        simp only [Act.put, List.setIfInBounds_toArray, List.set_cons_zero, List.set_cons_succ]
        refine wpAnyH_done (by kernel_rfl) ?_ _
        go_wp2_with fail
        go_meet
        exact ⟨g12, ao, cap, y, lo, hi, rfl, rfl, ⟨LOW.out, Nat.le_trans HIW4.out (by simp), LHI.out, fun W' ag => LQS4.out W' (fun g h1 h2 => (ag g h1 h2).trans (setRow_other _ _ _ _ (by have := GN.out; omega)))⟩, YM.out, RE.out, DE.out⟩
      ·have be := (Below.refl V2.heap.size V2).alloc (Nat.le_refl _) (.cells (bkA zHd (.slice none 0 0)) 62)
       have LW3 := hide (below_next LW2.out be)
       have LB3 := hide (LB2.out.below be)
       have RD3 := hide (heap_alloc_last V2 (.cells (bkA zHd (.slice none 0 0)) 62))
       have G12 : Hid (W3.heap.size ≤ V2.heap.size) := LW2.out.size
       clear be
       refine stepAllocA ABk (by rfl) (by rfl) ?_
       refine hK1.out _ _ LW3.out (fun hH => ?_)
       clear hK1
       change wpAnyH _ _ _ _ _ _ _ (Act.put _ (some 12) _) _
       simp only [Act.put, List.setIfInBounds_toArray, List.set_cons_zero, List.set_cons_succ]
       generalize V2.alloc (.cells (bkA zHd (.slice none 0 0)) 62) = V3 at *
       generalize V2.heap.size = g12 at *
       refine wpAnyH_ready (rs := [9]) (by kernel_rfl) (by simp) (AllReadyH.cons rfl (fun K1 hK1 => ?_) AllReadyH.nil)
       refine step_run14 (by rfl) (ex_app17 _ _ (by rfl) _ _ _ (by rfl) (by rfl) (app_none17 gx _ _)) ?_
       refine hK1.out _ _ LW3.out (fun hH => ?_)
       clear hK1
       change wpAnyH _ _ _ _ _ _ _ (Act.put _ (some 36) _) _
       simp only [Act.put, List.setIfInBounds_toArray, List.set_cons_zero, List.set_cons_succ]
       refine wpAnyH_ready (rs := [10]) (by kernel_rfl) (by simp) (AllReadyH.cons rfl (fun K1 hK1 => ?_) AllReadyH.nil)
       go_simp
       refine (HB.out X XM.out _ V3 LB3.out (KS.out _ (below_next BW.out LW3.out))).mono ?_
       rintro r V4 ⟨ao, cap, y, rfl, lq, ym, be⟩
       have YM := hide ym
       obtain ⟨lo, hlo⟩ : ∃ lo, lo = V3.heap.size := ⟨_, rfl⟩
       obtain ⟨hi, hhi⟩ : ∃ hi, hi = V4.heap.size := ⟨_, rfl⟩
       have LQS4 : Hid (∀ W' : World, (∀ g, lo ≤ g → g < hi → W'.heap[g]? = V4.heap[g]?) → LQ W' (.slice ao 1 cap) [y]) := by rw [hlo, hhi]; exact lq
       have LOW : Hid (w.heap.size + 1 < lo) := by have q1 := L8.out; have q2 := LW3.out.size; show _ < _; omega
       have HIW4 : Hid (hi ≤ V4.heap.size) := Nat.le_of_eq hhi
       have LHI : Hid (lo ≤ hi) := by rw [hlo, hhi]; exact be.size
       have GN : Hid (g12 < lo ∨ hi ≤ g12) := .inl (by have := lt_heap RD3.out; omega)
       have LW4 := hide (below_next LW3.out be)
       have LB4 := hide (LB3.out.below be)
       have RD4 := hide ((be.block _ (lt_heap RD3.out)).trans RD3.out)
       clear be lq ym hlo hhi
       refine hK1.out _ _ LW4.out (fun hH => ?_)
       clear hK1
       refine wt (i := 11) (v := (.tuple #[.agg (bkA (h17.at 2) (.slice ao 1 cap)), .int .i64 0])) rfl (yl_move (by rfl) _ (by rfl) _ (by rfl)) hH ?_
       change wpAnyH _ _ _ _ _ _ _ (Act.put _ (some 26) _) _
       simp only [Act.put, List.setIfInBounds_toArray, List.set_cons_zero, List.set_cons_succ]
       refine wt (i := 12) (v := (.agg (bkA (h17.at 2) (.slice ao 1 cap)))) rfl (.inl ⟨by rfl, fun W _ => by go_simp⟩) hH ?_
       change wpAnyH _ _ _ _ _ _ _ (Act.put _ (some 38) _) _
       simp only [Act.put, List.setIfInBounds_toArray, List.set_cons_zero, List.set_cons_succ]
       refine wt (i := 13) (v := (.int .i64 0)) rfl (.inl ⟨by rfl, fun W _ => by go_simp⟩) hH ?_
       change wpAnyH _ _ _ _ _ _ _ (Act.put _ (some 39) _) _
       simp only [Act.put, List.setIfInBounds_toArray, List.set_cons_zero, List.set_cons_succ]
       refine wpAnyH_ready (rs := [15]) (by kernel_rfl) (by simp) (AllReadyH.cons rfl (fun K1 hK1 => ?_) AllReadyH.nil)
       refine stepStoreA ABk (by rfl) _ _ (by rfl) g12 (bkA (h17.at 2) (.slice ao 1 cap)) (BZ.out ao cap).1 (BZ.out ao cap).2 (by rfl) (by rfl) (bkA zHd (.slice none 0 0)) (bkA_size _ _) _ RD4.out ?_
       have DE := hide (below_setRow LW4.out G12.out (bkA (h17.at 2) (.slice ao 1 cap)))
       have RE := hide (setRow_heap _ _ _ (bkA (h17.at 2) (.slice ao 1 cap)) _ _ RD4.out)
       refine hK1.out _ _ DE.out (fun hH => ?_)
       clear hK1
       change wpAnyH _ _ _ _ _ _ _ (Act.put _ none _) _
       simp only [Act.put]
       refine wt (i := 16) (v := (.int .i64 0)) rfl (.inl ⟨by rfl, fun W _ => by go_simp⟩) hH ?_
       change wpAnyH _ _ _ _ _ _ _ (Act.put _ (some 13) _) _
       simp only [Act.put, List.setIfInBounds_toArray, List.set_cons_zero, List.set_cons_succ]
       refine wpAnyH_done (by kernel_rfl) ?_ _
       go_wp2_with fail
       go_meet
       exact ⟨g12, ao, cap, y, lo, hi, rfl, rfl, ⟨LOW.out, Nat.le_trans HIW4.out (by simp), LHI.out, fun W' ag => LQS4.out W' (fun g h1 h2 => (ag g h1 h2).trans (setRow_other _ _ _ _ (by have := GN.out; omega)))⟩, YM.out, RE.out, DE.out⟩
     ·have be := (Below.refl V1.heap.size V1).alloc (Nat.le_refl _) (.cells (bkA zHd (.slice none 0 0)) 62)
      have LW2 := hide (below_next LW1.out be)
      have RD2 := hide (heap_alloc_last V1 (.cells (bkA zHd (.slice none 0 0)) 62))
      have G12 : Hid (W3.heap.size ≤ V1.heap.size) := LW1.out.size
      clear be
      refine stepAllocA ABk (by rfl) (by rfl) ?_
      refine hK1.out _ _ LW2.out (fun hH => ?_)
      clear hK1
      change wpAnyH _ _ _ _ _ _ _ (Act.put _ (some 12) _) _
      simp only [Act.put, List.setIfInBounds_toArray, List.set_cons_zero, List.set_cons_succ]
      generalize V1.alloc (.cells (bkA zHd (.slice none 0 0)) 62) = V2 at *
      generalize V1.heap.size = g12 at *
      refine wpAnyH_ready (rs := [7]) (by kernel_rfl) (by simp) (AllReadyH.cons rfl (fun K1 hK1 => ?_) AllReadyH.nil)
      refine Ek.stepBs1 KT (by rfl) _ (by rfl) X (by rfl) ?_
      have be := (Below.refl V2.heap.size V2).alloc (Nat.le_refl _) (.cells (KT.enc X).toArray KT.e)
      have LB3 := hide (LQX.out _ LW2.out)
      have LW3 := hide (below_next LW2.out be)
      have RD3 := hide ((be.block _ (lt_heap RD2.out)).trans RD2.out)
      clear be
      refine hK1.out _ _ LW3.out (fun hH => ?_)
      clear hK1
      change wpAnyH _ _ _ _ _ _ _ (Act.put _ (some 34) _) _
      simp only [Act.put, List.setIfInBounds_toArray, List.set_cons_zero, List.set_cons_succ]
      generalize V2.alloc (.cells (KT.enc X).toArray KT.e) = V3 at *
      generalize V2.heap.size = gx at *
      refine wpAnyH_ready (rs := [9]) (by kernel_rfl) (by simp) (AllReadyH.cons rfl (fun K1 hK1 => ?_) AllReadyH.nil)
      refine step_run14 (by rfl) (ex_app17 _ _ (by rfl) _ _ _ (by rfl) (by rfl) (app_none17 gx _ _)) ?_
      refine hK1.out _ _ LW3.out (fun hH => ?_)
      clear hK1
      change wpAnyH _ _ _ _ _ _ _ (Act.put _ (some 36) _) _
      simp only [Act.put, List.setIfInBounds_toArray, List.set_cons_zero, List.set_cons_succ]
      refine wpAnyH_ready (rs := [10]) (by kernel_rfl) (by simp) (AllReadyH.cons rfl (fun K1 hK1 => ?_) AllReadyH.nil)
      go_simp
      refine (HB.out X XM.out _ V3 LB3.out (KS.out _ (below_next BW.out LW3.out))).mono ?_
      rintro r V4 ⟨ao, cap, y, rfl, lq, ym, be⟩
      have YM := hide ym
      obtain ⟨lo, hlo⟩ : ∃ lo, lo = V3.heap.size := ⟨_, rfl⟩
      obtain ⟨hi, hhi⟩ : ∃ hi, hi = V4.heap.size := ⟨_, rfl⟩
      have LQS4 : Hid (∀ W' : World, (∀ g, lo ≤ g → g < hi → W'.heap[g]? = V4.heap[g]?) → LQ W' (.slice ao 1 cap) [y]) := by rw [hlo, hhi]; exact lq
      have LOW : Hid (w.heap.size + 1 < lo) := by have q1 := L8.out; have q2 := LW3.out.size; show _ < _; omega
      have HIW4 : Hid (hi ≤ V4.heap.size) := Nat.le_of_eq hhi
      have LHI : Hid (lo ≤ hi) := by rw [hlo, hhi]; exact be.size
      have GN : Hid (g12 < lo ∨ hi ≤ g12) := .inl (by have := lt_heap RD3.out; omega)
      have LW4 := hide (below_next LW3.out be)
      have LB4 := hide (LB3.out.below be)
      have RD4 := hide ((be.block _ (lt_heap RD3.out)).trans RD3.out)
      clear be lq ym hlo hhi
      refine hK1.out _ _ LW4.out (fun hH => ?_)
      clear hK1
      refine wt (i := 11) (v := (.tuple #[.agg (bkA (h17.at 2) (.slice ao 1 cap)), .int .i64 0])) rfl (yl_move (by rfl) _ (by rfl) _ (by rfl)) hH ?_
      change wpAnyH _ _ _ _ _ _ _ (Act.put _ (some 26) _) _
      simp only [Act.put, List.setIfInBounds_toArray, List.set_cons_zero, List.set_cons_succ]
      refine wt (i := 12) (v := (.agg (bkA (h17.at 2) (.slice ao 1 cap)))) rfl (.inl ⟨by rfl, fun W _ => by go_simp⟩) hH ?_
      change wpAnyH _ _ _ _ _ _ _ (Act.put _ (some 38) _) _
      simp only [Act.put, List.setIfInBounds_toArray, List.set_cons_zero, List.set_cons_succ]
      refine wt (i := 13) (v := (.int .i64 0)) rfl (.inl ⟨by rfl, fun W _ => by go_simp⟩) hH ?_
      change wpAnyH _ _ _ _ _ _ _ (Act.put _ (some 39) _) _
      simp only [Act.put, List.setIfInBounds_toArray, List.set_cons_zero, List.set_cons_succ]
      refine wpAnyH_ready (rs := [15]) (by kernel_rfl) (by simp) (AllReadyH.cons rfl (fun K1 hK1 => ?_) AllReadyH.nil)
      refine stepStoreA ABk (by rfl) _ _ (by rfl) g12 (bkA (h17.at 2) (.slice ao 1 cap)) (BZ.out ao cap).1 (BZ.out ao cap).2 (by rfl) (by rfl) (bkA zHd (.slice none 0 0)) (bkA_size _ _) _ RD4.out ?_
      have DE := hide (below_setRow LW4.out G12.out (bkA (h17.at 2) (.slice ao 1 cap)))
      have RE := hide (setRow_heap _ _ _ (bkA (h17.at 2) (.slice ao 1 cap)) _ _ RD4.out)
      refine hK1.out _ _ DE.out (fun hH => ?_)
      clear hK1
      change wpAnyH _ _ _ _ _ _ _ (Act.put _ none _) _
      simp only [Act.put]
      refine wt (i := 16) (v := (.int .i64 0)) rfl (.inl ⟨by rfl, fun W _ => by go_simp⟩) hH ?_
      change wpAnyH _ _ _ _ _ _ _ (Act.put _ (some 13) _) _
      simp only [Act.put, List.setIfInBounds_toArray, List.set_cons_zero, List.set_cons_succ]
      refine wpAnyH_done (by kernel_rfl) ?_ _
      go_wp2_with fail
      go_meet
      exact ⟨g12, ao, cap, y, lo, hi, rfl, rfl, ⟨LOW.out, Nat.le_trans HIW4.out (by simp), LHI.out, fun W' ag => LQS4.out W' (fun g h1 h2 => (ag g h1 h2).trans (setRow_other _ _ _ _ (by have := GN.out; omega)))⟩, YM.out, RE.out, DE.out⟩
    ·refine Ek.stepBs1 KT (by rfl) _ (by rfl) X (by rfl) ?_
     have be := (Below.refl V0.heap.size V0).alloc (Nat.le_refl _) (.cells (KT.enc X).toArray KT.e)
     have LB1 := hide (LQX.out _ LW0.out)
     have LW1 := hide (below_next LW0.out be)
     clear be
     refine hK1.out _ _ LW1.out (fun hH => ?_)
     clear hK1
     change wpAnyH _ _ _ _ _ _ _ (Act.put _ (some 34) _) _
     simp only [Act.put, List.setIfInBounds_toArray, List.set_cons_zero, List.set_cons_succ]
     generalize V0.alloc (.cells (KT.enc X).toArray KT.e) = V1 at *
     generalize V0.heap.size = gx at *
     refine wpAnyH_ready (rs := [1, 14]) (by kernel_rfl) (by simp) (AllReadyH.cons rfl (fun K1 hK1 => ?_) (AllReadyH.cons rfl (fun K1 hK1 => ?_) AllReadyH.nil))
     ·go_simp
      refine (HI.out V1 (KS.out _ (below_next BW.out LW1.out))).mono ?_
      rintro r V2 ⟨rfl, be⟩
      have LW2 := hide (below_next LW1.out be)
      have LB2 := hide (LB1.out.below be)
      clear be
      refine hK1.out _ _ LW2.out (fun hH => ?_)
      clear hK1
      refine wpAnyH_ready (rs := [9, 14]) (by kernel_rfl) (by simp) (AllReadyH.cons rfl (fun K1 hK1 => ?_) (AllReadyH.cons rfl (fun K1 hK1 => ?_) AllReadyH.nil))
      ·refine step_run14 (by rfl) (ex_app17 _ _ (by rfl) _ _ _ (by rfl) (by rfl) (app_none17 gx _ _)) ?_
       refine hK1.out _ _ LW2.out (fun hH => ?_)
       clear hK1
       change wpAnyH _ _ _ _ _ _ _ (Act.put _ (some 36) _) _
       simp only [Act.put, List.setIfInBounds_toArray, List.set_cons_zero, List.set_cons_succ]
       refine wpAnyH_ready (rs := [10, 14]) (by kernel_rfl) (by simp) (AllReadyH.cons rfl (fun K1 hK1 => ?_) (AllReadyH.cons rfl (fun K1 hK1 => ?_) AllReadyH.nil))
       ·go_simp
        refine (HB.out X XM.out _ V2 LB2.out (KS.out _ (below_next BW.out LW2.out))).mono ?_
        rintro r V3 ⟨ao, cap, y, rfl, lq, ym, be⟩
        have YM := hide ym
        obtain ⟨lo, hlo⟩ : ∃ lo, lo = V2.heap.size := ⟨_, rfl⟩
        obtain ⟨hi, hhi⟩ : ∃ hi, hi = V3.heap.size := ⟨_, rfl⟩
        have LQS3 : Hid (∀ W' : World, (∀ g, lo ≤ g → g < hi → W'.heap[g]? = V3.heap[g]?) → LQ W' (.slice ao 1 cap) [y]) := by rw [hlo, hhi]; exact lq
        have LOW : Hid (w.heap.size + 1 < lo) := by have q1 := L8.out; have q2 := LW2.out.size; show _ < _; omega
        have HIW3 : Hid (hi ≤ V3.heap.size) := Nat.le_of_eq hhi
        have LHI : Hid (lo ≤ hi) := by rw [hlo, hhi]; exact be.size
        have HL : Hid (hi = V3.heap.size) := hhi
        have LW3 := hide (below_next LW2.out be)
        have LB3 := hide (LB2.out.below be)
        clear be lq ym hlo hhi
        refine hK1.out _ _ LW3.out (fun hH => ?_)
        clear hK1
        refine wt (i := 11) (v := (.tuple #[.agg (bkA (h17.at 2) (.slice ao 1 cap)), .int .i64 0])) rfl (yl_move (by rfl) _ (by rfl) _ (by rfl)) hH ?_
        change wpAnyH _ _ _ _ _ _ _ (Act.put _ (some 26) _) _
        simp only [Act.put, List.setIfInBounds_toArray, List.set_cons_zero, List.set_cons_succ]
        refine wt (i := 12) (v := (.agg (bkA (h17.at 2) (.slice ao 1 cap)))) rfl (.inl ⟨by rfl, fun W _ => by go_simp⟩) hH ?_
        change wpAnyH _ _ _ _ _ _ _ (Act.put _ (some 38) _) _
        simp only [Act.put, List.setIfInBounds_toArray, List.set_cons_zero, List.set_cons_succ]
        refine wt (i := 13) (v := (.int .i64 0)) rfl (.inl ⟨by rfl, fun W _ => by go_simp⟩) hH ?_
        change wpAnyH _ _ _ _ _ _ _ (Act.put _ (some 39) _) _
        simp only [Act.put, List.setIfInBounds_toArray, List.set_cons_zero, List.set_cons_succ]
        refine wpAnyH_ready (rs := [14]) (by kernel_rfl) (by simp) (AllReadyH.cons rfl (fun K1 hK1 => ?_) AllReadyH.nil)
        have be := (Below.refl V3.heap.size V3).alloc (Nat.le_refl _) (.cells (bkA zHd (.slice none 0 0)) 62)
        have LW4 := hide (below_next LW3.out be)
        have RD4 := hide (heap_alloc_last V3 (.cells (bkA zHd (.slice none 0 0)) 62))
        have G12 : Hid (W3.heap.size ≤ V3.heap.size) := LW3.out.size
        have GN : Hid (V3.heap.size < lo ∨ hi ≤ V3.heap.size) := .inr HIW3.out
        have HIW4 : Hid (hi ≤ (V3.alloc (.cells (bkA zHd (.slice none 0 0)) 62)).heap.size) := Nat.le_trans HIW3.out be.size
        have LQS4 : Hid (∀ W' : World, (∀ g, lo ≤ g → g < hi → W'.heap[g]? = (V3.alloc (.cells (bkA zHd (.slice none 0 0)) 62)).heap[g]?) → LQ W' (.slice ao 1 cap) [y]) := fun W' ag => LQS3.out W' (fun g h1 h2 => (ag g h1 h2).trans (be.block g (Nat.lt_of_lt_of_le h2 HIW3.out)))
        clear be
        refine stepAllocA ABk (by rfl) (by rfl) ?_
        refine hK1.out _ _ LW4.out (fun hH => ?_)
        clear hK1
        change wpAnyH _ _ _ _ _ _ _ (Act.put _ (some 12) _) _
        simp only [Act.put, List.setIfInBounds_toArray, List.set_cons_zero, List.set_cons_succ]
        generalize V3.alloc (.cells (bkA zHd (.slice none 0 0)) 62) = V4 at *
        generalize V3.heap.size = g12 at *
        refine wpAnyH_ready (rs := [15]) (by kernel_rfl) (by simp) (AllReadyH.cons rfl (fun K1 hK1 => ?_) AllReadyH.nil)
        refine stepStoreA ABk (by rfl) _ _ (by rfl) g12 (bkA (h17.at 2) (.slice ao 1 cap)) (BZ.out ao cap).1 (BZ.out ao cap).2 (by rfl) (by rfl) (bkA zHd (.slice none 0 0)) (bkA_size _ _) _ RD4.out ?_
        have DE := hide (below_setRow LW4.out G12.out (bkA (h17.at 2) (.slice ao 1 cap)))
        have RE := hide (setRow_heap _ _ _ (bkA (h17.at 2) (.slice ao 1 cap)) _ _ RD4.out)
        refine hK1.out _ _ DE.out (fun hH => ?_)
        clear hK1
        change wpAnyH _ _ _ _ _ _ _ (Act.put _ none _) _
        simp only [Act.put]
        refine wt (i := 16) (v := (.int .i64 0)) rfl (.inl ⟨by rfl, fun W _ => by go_simp⟩) hH ?_
        change wpAnyH _ _ _ _ _ _ _ (Act.put _ (some 13) _) _
        simp only [Act.put, List.setIfInBounds_toArray, List.set_cons_zero, List.set_cons_succ]
        refine wpAnyH_done (by kernel_rfl) ?_ _
        go_wp2_with fail
        go_meet
        exact ⟨g12, ao, cap, y, lo, hi, rfl, rfl, ⟨LOW.out, Nat.le_trans HIW4.out (by simp), LHI.out, fun W' ag => LQS4.out W' (fun g h1 h2 => (ag g h1 h2).trans (setRow_other _ _ _ _ (by have := GN.out; omega)))⟩, YM.out, RE.out, DE.out⟩
       ·have be := (Below.refl V2.heap.size V2).alloc (Nat.le_refl _) (.cells (bkA zHd (.slice none 0 0)) 62)
        have LW3 := hide (below_next LW2.out be)
        have LB3 := hide (LB2.out.below be)
        have RD3 := hide (heap_alloc_last V2 (.cells (bkA zHd (.slice none 0 0)) 62))
        have G12 : Hid (W3.heap.size ≤ V2.heap.size) := LW2.out.size
        clear be
        refine stepAllocA ABk (by rfl) (by rfl) ?_
        refine hK1.out _ _ LW3.out (fun hH => ?_)
        clear hK1
        change wpAnyH _ _ _ _ _ _ _ (Act.put _ (some 12) _) _
        simp only [Act.put, List.setIfInBounds_toArray, List.set_cons_zero, List.set_cons_succ]
        generalize V2.alloc (.cells (bkA zHd (.slice none 0 0)) 62) = V3 at *
        generalize V2.heap.size = g12 at *
        refine wpAnyH_ready (rs := [10]) (by kernel_rfl) (by simp) (AllReadyH.cons rfl (fun K1 hK1 => ?_) AllReadyH.nil)
        go_simp
        refine (HB.out X XM.out _ V3 LB3.out (KS.out _ (below_next BW.out LW3.out))).mono ?_
        rintro r V4 ⟨ao, cap, y, rfl, lq, ym, be⟩
        have YM := hide ym
        obtain ⟨lo, hlo⟩ : ∃ lo, lo = V3.heap.size := ⟨_, rfl⟩
        obtain ⟨hi, hhi⟩ : ∃ hi, hi = V4.heap.size := ⟨_, rfl⟩
        have LQS4 : Hid (∀ W' : World, (∀ g, lo ≤ g → g < hi → W'.heap[g]? = V4.heap[g]?) → LQ W' (.slice ao 1 cap) [y]) := by rw [hlo, hhi]; exact lq
        have LOW : Hid (w.heap.size + 1 < lo) := by have q1 := L8.out; have q2 := LW3.out.size; show _ < _; omega
        have HIW4 : Hid (hi ≤ V4.heap.size) := Nat.le_of_eq hhi
        have LHI : Hid (lo ≤ hi) := by rw [hlo, hhi]; exact be.size
        have GN : Hid (g12 < lo ∨ hi ≤ g12) := .inl (by have := lt_heap RD3.out; omega)
        have LW4 := hide (below_next LW3.out be)
        have LB4 := hide (LB3.out.below be)
        have RD4 := hide ((be.block _ (lt_heap RD3.out)).trans RD3.out)
        clear be lq ym hlo hhi
        refine hK1.out _ _ LW4.out (fun hH => ?_)
        clear hK1
        refine wt (i := 11) (v := (.tuple #[.agg (bkA (h17.at 2) (.slice ao 1 cap)), .int .i64 0])) rfl (yl_move (by rfl) _ (by rfl) _ (by rfl)) hH ?_
        change wpAnyH _ _ _ _ _ _ _ (Act.put _ (some 26) _) _
        simp only [Act.put, List.setIfInBounds_toArray, List.set_cons_zero, List.set_cons_succ]
        refine wt (i := 12) (v := (.agg (bkA (h17.at 2) (.slice ao 1 cap)))) rfl (.inl ⟨by rfl, fun W _ => by go_simp⟩) hH ?_
        change wpAnyH _ _ _ _ _ _ _ (Act.put _ (some 38) _) _
        simp only [Act.put, List.setIfInBounds_toArray, List.set_cons_zero, List.set_cons_succ]
        refine wt (i := 13) (v := (.int .i64 0)) rfl (.inl ⟨by rfl, fun W _ => by go_simp⟩) hH ?_
        change wpAnyH _ _ _ _ _ _ _ (Act.put _ (some 39) _) _
        simp only [Act.put, List.setIfInBounds_toArray, List.set_cons_zero, List.set_cons_succ]
        refine wpAnyH_ready (rs := [15]) (by kernel_rfl) (by simp) (AllReadyH.cons rfl (fun K1 hK1 => ?_) AllReadyH.nil)
        refine stepStoreA ABk (by rfl) _ _ (by rfl) g12 (bkA (h17.at 2) (.slice ao 1 cap)) (BZ.out ao cap).1 (BZ.out ao cap).2 (by rfl) (by rfl) (bkA zHd (.slice none 0 0)) (bkA_size _ _) _ RD4.out ?_
        have DE := hide (below_setRow LW4.out G12.out (bkA (h17.at 2) (.slice ao 1 cap)))
        have RE := hide (setRow_heap _ _ _ (bkA (h17.at 2) (.slice ao 1 cap)) _ _ RD4.out)
        refine hK1.out _ _ DE.out (fun hH => ?_)
        clear hK1
        change wpAnyH _ _ _ _ _ _ _ (Act.put _ none _) _
        simp only [Act.put]
        refine wt (i := 16) (v := (.int .i64 0)) rfl (.inl ⟨by rfl, fun W _ => by go_simp⟩) hH ?_
        change wpAnyH _ _ _ _ _ _ _ (Act.put _ (some 13) _) _
        simp only [Act.put, List.setIfInBounds_toArray, List.set_cons_zero, List.set_cons_succ]
        refine wpAnyH_done (by kernel_rfl) ?_ _
        go_wp2_with fail
        go_meet
        exact ⟨g12, ao, cap, y, lo, hi, rfl, rfl, ⟨LOW.out, Nat.le_trans HIW4.out (by simp), LHI.out, fun W' ag => LQS4.out W' (fun g h1 h2 => (ag g h1 h2).trans (setRow_other _ _ _ _ (by have := GN.out; omega)))⟩, YM.out, RE.out, DE.out⟩
      ·have be := (Below.refl V2.heap.size V2).alloc (Nat.le_refl _) (.cells (bkA zHd (.slice none 0 0)) 62)
       have LW3 := hide (below_next LW2.out be)
       have LB3 := hide (LB2.out.below be)
       have RD3 := hide (heap_alloc_last V2 (.cells (bkA zHd (.slice none 0 0)) 62))
       have G12 : Hid (W3.heap.size ≤ V2.heap.size) := LW2.out.size
       clear be
       refine stepAllocA ABk (by rfl) (by rfl) ?_
       refine hK1.out _ _ LW3.out (fun hH => ?_)
       clear hK1
       change wpAnyH _ _ _ _ _ _ _ (Act.put _ (some 12) _) _
       simp only [Act.put, List.setIfInBounds_toArray, List.set_cons_zero, List.set_cons_succ]
       generalize V2.alloc (.cells (bkA zHd (.slice none 0 0)) 62) = V3 at *
       generalize V2.heap.size = g12 at *
       refine wpAnyH_ready (rs := [9]) (by kernel_rfl) (by simp) (AllReadyH.cons rfl (fun K1 hK1 => ?_) AllReadyH.nil)
       refine step_run14 (by rfl) (ex_app17 _ _ (by rfl) _ _ _ (by rfl) (by rfl) (app_none17 gx _ _)) ?_
       refine hK1.out _ _ LW3.out (fun hH => ?_)
       clear hK1
       change wpAnyH _ _ _ _ _ _ _ (Act.put _ (some 36) _) _
       simp only [Act.put, List.setIfInBounds_toArray, List.set_cons_zero, List.set_cons_succ]
       refine wpAnyH_ready (rs := [10]) (by kernel_rfl) (by simp) (AllReadyH.cons rfl (fun K1 hK1 => ?_) AllReadyH.nil)
       go_simp
       refine (HB.out X XM.out _ V3 LB3.out (KS.out _ (below_next BW.out LW3.out))).mono ?_
       rintro r V4 ⟨ao, cap, y, rfl, lq, ym, be⟩
       have YM := hide ym
       obtain ⟨lo, hlo⟩ : ∃ lo, lo = V3.heap.size := ⟨_, rfl⟩
       obtain ⟨hi, hhi⟩ : ∃ hi, hi = V4.heap.size := ⟨_, rfl⟩
       have LQS4 : Hid (∀ W' : World, (∀ g, lo ≤ g → g < hi → W'.heap[g]? = V4.heap[g]?) → LQ W' (.slice ao 1 cap) [y]) := by rw [hlo, hhi]; exact lq
       have LOW : Hid (w.heap.size + 1 < lo) := by have q1 := L8.out; have q2 := LW3.out.size; show _ < _; omega
       have HIW4 : Hid (hi ≤ V4.heap.size) := Nat.le_of_eq hhi
       have LHI : Hid (lo ≤ hi) := by rw [hlo, hhi]; exact be.size
       have GN : Hid (g12 < lo ∨ hi ≤ g12) := .inl (by have := lt_heap RD3.out; omega)
       have LW4 := hide (below_next LW3.out be)
       have LB4 := hide (LB3.out.below be)
       have RD4 := hide ((be.block _ (lt_heap RD3.out)).trans RD3.out)
       clear be lq ym hlo hhi
       refine hK1.out _ _ LW4.out (fun hH => ?_)
       clear hK1
       refine wt (i := 11) (v := (.tuple #[.agg (bkA (h17.at 2) (.slice ao 1 cap)), .int .i64 0])) rfl (yl_move (by rfl) _ (by rfl) _ (by rfl)) hH ?_
       change wpAnyH _ _ _ _ _ _ _ (Act.put _ (some 26) _) _
       simp only [Act.put, List.setIfInBounds_toArray, List.set_cons_zero, List.set_cons_succ]
       refine wt (i := 12) (v := (.agg (bkA (h17.at 2) (.slice ao 1 cap)))) rfl (.inl ⟨by rfl, fun W _ => by go_simp⟩) hH ?_
       change wpAnyH _ _ _ _ _ _ _ (Act.put _ (some 38) _) _
       simp only [Act.put, List.setIfInBounds_toArray, List.set_cons_zero, List.set_cons_succ]
       refine wt (i := 13) (v := (.int .i64 0)) rfl (.inl ⟨by rfl, fun W _ => by go_simp⟩) hH ?_
       change wpAnyH _ _ _ _ _ _ _ (Act.put _ (some 39) _) _
       simp only [Act.put, List.setIfInBounds_toArray, List.set_cons_zero, List.set_cons_succ]
       refine wpAnyH_ready (rs := [15]) (by kernel_rfl) (by simp) (AllReadyH.cons rfl (fun K1 hK1 => ?_) AllReadyH.nil)
       refine stepStoreA ABk (by rfl) _ _ (by rfl) g12 (bkA (h17.at 2) (.slice ao 1 cap)) (BZ.out ao cap).1 (BZ.out ao cap).2 (by rfl) (by rfl) (bkA zHd (.slice none 0 0)) (bkA_size _ _) _ RD4.out ?_
       have DE := hide (below_setRow LW4.out G12.out (bkA (h17.at 2) (.slice ao 1 cap)))
       have RE := hide (setRow_heap _ _ _ (bkA (h17.at 2) (.slice ao 1 cap)) _ _ RD4.out)
       refine hK1.out _ _ DE.out (fun hH => ?_)
       clear hK1
       change wpAnyH _ _ _ _ _ _ _ (Act.put _ none _) _
       simp only [Act.put]
       refine wt (i := 16) (v := (.int .i64 0)) rfl (.inl ⟨by rfl, fun W _ => by go_simp⟩) hH ?_
       change wpAnyH _ _ _ _ _ _ _ (Act.put _ (some 13) _) _
       simp only [Act.put, List.setIfInBounds_toArray, List.set_cons_zero, List.set_cons_succ]
       refine wpAnyH_done (by kernel_rfl) ?_ _
       go_wp2_with fail
       go_meet
       exact ⟨g12, ao, cap, y, lo, hi, rfl, rfl, ⟨LOW.out, Nat.le_trans HIW4.out (by simp), LHI.out, fun W' ag => LQS4.out W' (fun g h1 h2 => (ag g h1 h2).trans (setRow_other _ _ _ _ (by have := GN.out; omega)))⟩, YM.out, RE.out, DE.out⟩
     ·have be := (Below.refl V1.heap.size V1).alloc (Nat.le_refl _) (.cells (bkA zHd (.slice none 0 0)) 62)
      have LW2 := hide (below_next LW1.out be)
      have LB2 := hide (LB1.out.below be)
      have RD2 := hide (heap_alloc_last V1 (.cells (bkA zHd (.slice none 0 0)) 62))
      have G12 : Hid (W3.heap.size ≤ V1.heap.size) := LW1.out.size
      clear be
      refine stepAllocA ABk (by rfl) (by rfl) ?_
      refine hK1.out _ _ LW2.out (fun hH => ?_)
      clear hK1
      change wpAnyH _ _ _ _ _ _ _ (Act.put _ (some 12) _) _
      simp only [Act.put, List.setIfInBounds_toArray, List.set_cons_zero, List.set_cons_succ]
      generalize V1.alloc (.cells (bkA zHd (.slice none 0 0)) 62) = V2 at *
      generalize V1.heap.size = g12 at *
      refine wpAnyH_ready (rs := [1]) (by kernel_rfl) (by simp) (AllReadyH.cons rfl (fun K1 hK1 => ?_) AllReadyH.nil)
      go_simp
      refine (HI.out V2 (KS.out _ (below_next BW.out LW2.out))).mono ?_
      rintro r V3 ⟨rfl, be⟩
      have LW3 := hide (below_next LW2.out be)
      have LB3 := hide (LB2.out.below be)
      have RD3 := hide ((be.block _ (lt_heap RD2.out)).trans RD2.out)
      clear be
      refine hK1.out _ _ LW3.out (fun hH => ?_)
      clear hK1
      refine wpAnyH_ready (rs := [9]) (by kernel_rfl) (by simp) (AllReadyH.cons rfl (fun K1 hK1 => ?_) AllReadyH.nil)
      refine step_run14 (by rfl) (ex_app17 _ _ (by rfl) _ _ _ (by rfl) (by rfl) (app_none17 gx _ _)) ?_
      refine hK1.out _ _ LW3.out (fun hH => ?_)
      clear hK1
      change wpAnyH _ _ _ _ _ _ _ (Act.put _ (some 36) _) _
      simp only [Act.put, List.setIfInBounds_toArray, List.set_cons_zero, List.set_cons_succ]
      refine wpAnyH_ready (rs := [10]) (by kernel_rfl) (by simp) (AllReadyH.cons rfl (fun K1 hK1 => ?_) AllReadyH.nil)
      go_simp
      refine (HB.out X XM.out _ V3 LB3.out (KS.out _ (below_next BW.out LW3.out))).mono ?_
      rintro r V4 ⟨ao, cap, y, rfl, lq, ym, be⟩
      have YM := hide ym
      obtain ⟨lo, hlo⟩ : ∃ lo, lo = V3.heap.size := ⟨_, rfl⟩
      obtain ⟨hi, hhi⟩ : ∃ hi, hi = V4.heap.size := ⟨_, rfl⟩
      have LQS4 : Hid (∀ W' : World, (∀ g, lo ≤ g → g < hi → W'.heap[g]? = V4.heap[g]?) → LQ W' (.slice ao 1 cap) [y]) := by rw [hlo, hhi]; exact lq
      have LOW : Hid (w.heap.size + 1 < lo) := by have q1 := L8.out; have q2 := LW3.out.size; show _ < _; omega
      have HIW4 : Hid (hi ≤ V4.heap.size) := Nat.le_of_eq hhi
      have LHI : Hid (lo ≤ hi) := by rw [hlo, hhi]; exact be.size
      have GN : Hid (g12 < lo ∨ hi ≤ g12) := .inl (by have := lt_heap RD3.out; omega)
      have LW4 := hide (below_next LW3.out be)
      have LB4 := hide (LB3.out.below be)
      have RD4 := hide ((be.block _ (lt_heap RD3.out)).trans RD3.out)
      clear be lq ym hlo hhi
      refine hK1.out _ _ LW4.out (fun hH => ?_)
      clear hK1
      refine wt (i := 11) (v := (.tuple #[.agg (bkA (h17.at 2) (.slice ao 1 cap)), .int .i64 0])) rfl (yl_move (by rfl) _ (by rfl) _ (by rfl)) hH ?_
      change wpAnyH _ _ _ _ _ _ _ (Act.put _ (some 26) _) _
      simp only [Act.put, List.setIfInBounds_toArray, List.set_cons_zero, List.set_cons_succ]
      refine wt (i := 12) (v := (.agg (bkA (h17.at 2) (.slice ao 1 cap)))) rfl (.inl ⟨by rfl, fun W _ => by go_simp⟩) hH ?_
      change wpAnyH _ _ _ _ _ _ _ (Act.put _ (some 38) _) _
      simp only [Act.put, List.setIfInBounds_toArray, List.set_cons_zero, List.set_cons_succ]
      refine wt (i := 13) (v := (.int .i64 0)) rfl (.inl ⟨by rfl, fun W _ => by go_simp⟩) hH ?_
      change wpAnyH _ _ _ _ _ _ _ (Act.put _ (some 39) _) _
      simp only [Act.put, List.setIfInBounds_toArray, List.set_cons_zero, List.set_cons_succ]
      refine wpAnyH_ready (rs := [15]) (by kernel_rfl) (by simp) (AllReadyH.cons rfl (fun K1 hK1 => ?_) AllReadyH.nil)
      refine stepStoreA ABk (by rfl) _ _ (by rfl) g12 (bkA (h17.at 2) (.slice ao 1 cap)) (BZ.out ao cap).1 (BZ.out ao cap).2 (by rfl) (by rfl) (bkA zHd (.slice none 0 0)) (bkA_size _ _) _ RD4.out ?_
      have DE := hide (below_setRow LW4.out G12.out (bkA (h17.at 2) (.slice ao 1 cap)))
      have RE := hide (setRow_heap _ _ _ (bkA (h17.at 2) (.slice ao 1 cap)) _ _ RD4.out)
      refine hK1.out _ _ DE.out (fun hH => ?_)
      clear hK1
      change wpAnyH _ _ _ _ _ _ _ (Act.put _ none _) _
      simp only [Act.put]
      refine wt (i := 16) (v := (.int .i64 0)) rfl (.inl ⟨by rfl, fun W _ => by go_simp⟩) hH ?_
      change wpAnyH _ _ _ _ _ _ _ (Act.put _ (some 13) _) _
      simp only [Act.put, List.setIfInBounds_toArray, List.set_cons_zero, List.set_cons_succ]
      refine wpAnyH_done (by kernel_rfl) ?_ _
      go_wp2_with fail
      go_meet
      exact ⟨g12, ao, cap, y, lo, hi, rfl, rfl, ⟨LOW.out, Nat.le_trans HIW4.out (by simp), LHI.out, fun W' ag => LQS4.out W' (fun g h1 h2 => (ag g h1 h2).trans (setRow_other _ _ _ _ (by have := GN.out; omega)))⟩, YM.out, RE.out, DE.out⟩
    ·have be := (Below.refl V0.heap.size V0).alloc (Nat.le_refl _) (.cells (bkA zHd (.slice none 0 0)) 62)
     have LW1 := hide (below_next LW0.out be)
     have RD1 := hide (heap_alloc_last V0 (.cells (bkA zHd (.slice none 0 0)) 62))
     have G12 : Hid (W3.heap.size ≤ V0.heap.size) := LW0.out.size
     clear be
     refine stepAllocA ABk (by rfl) (by rfl) ?_
     refine hK1.out _ _ LW1.out (fun hH => ?_)
     clear hK1
     change wpAnyH _ _ _ _ _ _ _ (Act.put _ (some 12) _) _
     simp only [Act.put, List.setIfInBounds_toArray, List.set_cons_zero, List.set_cons_succ]
     generalize V0.alloc (.cells (bkA zHd (.slice none 0 0)) 62) = V1 at *
     generalize V0.heap.size = g12 at *
     refine wpAnyH_ready (rs := [1, 7]) (by kernel_rfl) (by simp) (AllReadyH.cons rfl (fun K1 hK1 => ?_) (AllReadyH.cons rfl (fun K1 hK1 => ?_) AllReadyH.nil))
     ·go_simp
      refine (HI.out V1 (KS.out _ (below_next BW.out LW1.out))).mono ?_
      rintro r V2 ⟨rfl, be⟩
      have LW2 := hide (below_next LW1.out be)
      have RD2 := hide ((be.block _ (lt_heap RD1.out)).trans RD1.out)
      clear be
      refine hK1.out _ _ LW2.out (fun hH => ?_)
      clear hK1
      refine wpAnyH_ready (rs := [7]) (by kernel_rfl) (by simp) (AllReadyH.cons rfl (fun K1 hK1 => ?_) AllReadyH.nil)
      refine Ek.stepBs1 KT (by rfl) _ (by rfl) X (by rfl) ?_
      have be := (Below.refl V2.heap.size V2).alloc (Nat.le_refl _) (.cells (KT.enc X).toArray KT.e)
      have LB3 := hide (LQX.out _ LW2.out)
      have LW3 := hide (below_next LW2.out be)
      have RD3 := hide ((be.block _ (lt_heap RD2.out)).trans RD2.out)
      clear be
      refine hK1.out _ _ LW3.out (fun hH => ?_)
      clear hK1
      change wpAnyH _ _ _ _ _ _ _ (Act.put _ (some 34) _) _
      simp only [Act.put, List.setIfInBounds_toArray, List.set_cons_zero, List.set_cons_succ]
      generalize V2.alloc (.cells (KT.enc X).toArray KT.e) = V3 at *
      generalize V2.heap.size = gx at *
      refine wpAnyH_ready (rs := [9]) (by kernel_rfl) (by simp) (AllReadyH.cons rfl (fun K1 hK1 => ?_) AllReadyH.nil)
      refine step_run14 (by rfl) (ex_app17 _ _ (by rfl) _ _ _ (by rfl) (by rfl) (app_none17 gx _ _)) ?_
      refine hK1.out _ _ LW3.out (fun hH => ?_)
      clear hK1
      change wpAnyH _ _ _ _ _ _ _ (Act.put _ (some 36) _) _
      simp only [Act.put, List.setIfInBounds_toArray, List.set_cons_zero, List.set_cons_succ]
      refine wpAnyH_ready (rs := [10]) (by kernel_rfl) (by simp) (AllReadyH.cons rfl (fun K1 hK1 => ?_) AllReadyH.nil)
      go_simp
      refine (HB.out X XM.out _ V3 LB3.out (KS.out _ (below_next BW.out LW3.out))).mono ?_
      rintro r V4 ⟨ao, cap, y, rfl, lq, ym, be⟩
      have YM := hide ym
      obtain ⟨lo, hlo⟩ : ∃ lo, lo = V3.heap.size := ⟨_, rfl⟩
      obtain ⟨hi, hhi⟩ : ∃ hi, hi = V4.heap.size := ⟨_, rfl⟩
      have LQS4 : Hid (∀ W' : World, (∀ g, lo ≤ g → g < hi → W'.heap[g]? = V4.heap[g]?) → LQ W' (.slice ao 1 cap) [y]) := by rw [hlo, hhi]; exact lq
      have LOW : Hid (w.heap.size + 1 < lo) := by have q1 := L8.out; have q2 := LW3.out.size; show _ < _; omega
      have HIW4 : Hid (hi ≤ V4.heap.size) := Nat.le_of_eq hhi
      have LHI : Hid (lo ≤ hi) := by rw [hlo, hhi]; exact be.size
      have GN : Hid (g12 < lo ∨ hi ≤ g12) := .inl (by have := lt_heap RD3.out; omega)
      have LW4 := hide (below_next LW3.out be)
      have LB4 := hide (LB3.out.below be)
      have RD4 := hide ((be.block _ (lt_heap RD3.out)).trans RD3.out)
      clear be lq ym hlo hhi
      refine hK1.out _ _ LW4.out (fun hH => ?_)
      clear hK1
      refine wt (i := 11) (v := (.tuple #[.agg (bkA (h17.at 2) (.slice ao 1 cap)), .int .i64 0])) rfl (yl_move (by rfl) _ (by rfl) _ (by rfl)) hH ?_
      change wpAnyH _ _ _ _ _ _ _ (Act.put _ (some 26) _) _
      simp only [Act.put, List.setIfInBounds_toArray, List.set_cons_zero, List.set_cons_succ]
      refine wt (i := 12) (v := (.agg (bkA (h17.at 2) (.slice ao 1 cap)))) rfl (.inl ⟨by rfl, fun W _ => by go_simp⟩) hH ?_
      change wpAnyH _ _ _ _ _ _ _ (Act.put _ (some 38) _) _
      simp only [Act.put, List.setIfInBounds_toArray, List.set_cons_zero, List.set_cons_succ]
      refine wt (i := 13) (v := (.int .i64 0)) rfl (.inl ⟨by rfl, fun W _ => by go_simp⟩) hH ?_
      change wpAnyH _ _ _ _ _ _ _ (Act.put _ (some 39) _) _
      simp only [Act.put, List.setIfInBounds_toArray, List.set_cons_zero, List.set_cons_succ]
      refine wpAnyH_ready (rs := [15]) (by kernel_rfl) (by simp) (AllReadyH.cons rfl (fun K1 hK1 => ?_) AllReadyH.nil)
      refine stepStoreA ABk (by rfl) _ _ (by rfl) g12 (bkA (h17.at 2) (.slice ao 1 cap)) (BZ.out ao cap).1 (BZ.out ao cap).2 (by rfl) (by rfl) (bkA zHd (.slice none 0 0)) (bkA_size _ _) _ RD4.out ?_
      have DE := hide (below_setRow LW4.out G12.out (bkA (h17.at 2) (.slice ao 1 cap)))
      have RE := hide (setRow_heap _ _ _ (bkA (h17.at 2) (.slice ao 1 cap)) _ _ RD4.out)
      refine hK1.out _ _ DE.out (fun hH => ?_)
      clear hK1
      change wpAnyH _ _ _ _ _ _ _ (Act.put _ none _) _
      simp only [Act.put]
      refine wt (i := 16) (v := (.int .i64 0)) rfl (.inl ⟨by rfl, fun W _ => by go_simp⟩) hH ?_
      change wpAnyH _ _ _ _ _ _ _ (Act.put _ (some 13) _) _
      simp only [Act.put, List.setIfInBounds_toArray, List.set_cons_zero, List.set_cons_succ]
      refine wpAnyH_done (by kernel_rfl) ?_ _
      go_wp2_with fail
      go_meet
      exact ⟨g12, ao, cap, y, lo, hi, rfl, rfl, ⟨LOW.out, Nat.le_trans HIW4.out (by simp), LHI.out, fun W' ag => LQS4.out W' (fun g h1 h2 => (ag g h1 h2).trans (setRow_other _ _ _ _ (by have := GN.out; omega)))⟩, YM.out, RE.out, DE.out⟩
     ·refine Ek.stepBs1 KT (by rfl) _ (by rfl) X (by rfl) ?_
      have be := (Below.refl V1.heap.size V1).alloc (Nat.le_refl _) (.cells (KT.enc X).toArray KT.e)
      have LB2 := hide (LQX.out _ LW1.out)
      have LW2 := hide (below_next LW1.out be)
      have RD2 := hide ((be.block _ (lt_heap RD1.out)).trans RD1.out)
      clear be
      refine hK1.out _ _ LW2.out (fun hH => ?_)
      clear hK1
      change wpAnyH _ _ _ _ _ _ _ (Act.put _ (some 34) _) _
      simp only [Act.put, List.setIfInBounds_toArray, List.set_cons_zero, List.set_cons_succ]
      generalize V1.alloc (.cells (KT.enc X).toArray KT.e) = V2 at *
      generalize V1.heap.size = gx at *
      refine wpAnyH_ready (rs := [1]) (by kernel_rfl) (by simp) (AllReadyH.cons rfl (fun K1 hK1 => ?_) AllReadyH.nil)
      go_simp
      refine (HI.out V2 (KS.out _ (below_next BW.out LW2.out))).mono ?_
      rintro r V3 ⟨rfl, be⟩
      have LW3 := hide (below_next LW2.out be)
      have LB3 := hide (LB2.out.below be)
      have RD3 := hide ((be.block _ (lt_heap RD2.out)).trans RD2.out)
      clear be
      refine hK1.out _ _ LW3.out (fun hH => ?_)
      clear hK1
      refine wpAnyH_ready (rs := [9]) (by kernel_rfl) (by simp) (AllReadyH.cons rfl (fun K1 hK1 => ?_) AllReadyH.nil)
      refine step_run14 (by rfl) (ex_app17 _ _ (by rfl) _ _ _ (by rfl) (by rfl) (app_none17 gx _ _)) ?_
      refine hK1.out _ _ LW3.out (fun hH => ?_)
      clear hK1
      change wpAnyH _ _ _ _ _ _ _ (Act.put _ (some 36) _) _
      simp only [Act.put, List.setIfInBounds_toArray, List.set_cons_zero, List.set_cons_succ]
      refine wpAnyH_ready (rs := [10]) (by kernel_rfl) (by simp) (AllReadyH.cons rfl (fun K1 hK1 => ?_) AllReadyH.nil)
      go_simp
      refine (HB.out X XM.out _ V3 LB3.out (KS.out _ (below_next BW.out LW3.out))).mono ?_
      rintro r V4 ⟨ao, cap, y, rfl, lq, ym, be⟩
      have YM := hide ym
      obtain ⟨lo, hlo⟩ : ∃ lo, lo = V3.heap.size := ⟨_, rfl⟩
      obtain ⟨hi, hhi⟩ : ∃ hi, hi = V4.heap.size := ⟨_, rfl⟩
      have LQS4 : Hid (∀ W' : World, (∀ g, lo ≤ g → g < hi → W'.heap[g]? = V4.heap[g]?) → LQ W' (.slice ao 1 cap) [y]) := by rw [hlo, hhi]; exact lq
      have LOW : Hid (w.heap.size + 1 < lo) := by have q1 := L8.out; have q2 := LW3.out.size; show _ < _; omega
      have HIW4 : Hid (hi ≤ V4.heap.size) := Nat.le_of_eq hhi
      have LHI : Hid (lo ≤ hi) := by rw [hlo, hhi]; exact be.size
      have GN : Hid (g12 < lo ∨ hi ≤ g12) := .inl (by have := lt_heap RD3.out; omega)
      have LW4 := hide (below_next LW3.out be)
      have LB4 := hide (LB3.out.below be)
      have RD4 := hide ((be.block _ (lt_heap RD3.out)).trans RD3.out)
      clear be lq ym hlo hhi
      refine hK1.out _ _ LW4.out (fun hH => ?_)
      clear hK1
      refine wt (i := 11) (v := (.tuple #[.agg (bkA (h17.at 2) (.slice ao 1 cap)), .int .i64 0])) rfl (yl_move (by rfl) _ (by rfl) _ (by rfl)) hH ?_
      change wpAnyH _ _ _ _ _ _ _ (Act.put _ (some 26) _) _
      simp only [Act.put, List.setIfInBounds_toArray, List.set_cons_zero, List.set_cons_succ]
      refine wt (i := 12) (v := (.agg (bkA (h17.at 2) (.slice ao 1 cap)))) rfl (.inl ⟨by rfl, fun W _ => by go_simp⟩) hH ?_
      change wpAnyH _ _ _ _ _ _ _ (Act.put _ (some 38) _) _
      simp only [Act.put, List.setIfInBounds_toArray, List.set_cons_zero, List.set_cons_succ]
      refine wt (i := 13) (v := (.int .i64 0)) rfl (.inl ⟨by rfl, fun W _ => by go_simp⟩) hH ?_
      change wpAnyH _ _ _ _ _ _ _ (Act.put _ (some 39) _) _
      simp only [Act.put, List.setIfInBounds_toArray, List.set_cons_zero, List.set_cons_succ]
      refine wpAnyH_ready (rs := [15]) (by kernel_rfl) (by simp) (AllReadyH.cons rfl (fun K1 hK1 => ?_) AllReadyH.nil)
      refine stepStoreA ABk (by rfl) _ _ (by rfl) g12 (bkA (h17.at 2) (.slice ao 1 cap)) (BZ.out ao cap).1 (BZ.out ao cap).2 (by rfl) (by rfl) (bkA zHd (.slice none 0 0)) (bkA_size _ _) _ RD4.out ?_
      have DE := hide (below_setRow LW4.out G12.out (bkA (h17.at 2) (.slice ao 1 cap)))
      have RE := hide (setRow_heap _ _ _ (bkA (h17.at 2) (.slice ao 1 cap)) _ _ RD4.out)
      refine hK1.out _ _ DE.out (fun hH => ?_)
      clear hK1
      change wpAnyH _ _ _ _ _ _ _ (Act.put _ none _) _
      simp only [Act.put]
      refine wt (i := 16) (v := (.int .i64 0)) rfl (.inl ⟨by rfl, fun W _ => by go_simp⟩) hH ?_
      change wpAnyH _ _ _ _ _ _ _ (Act.put _ (some 13) _) _
      simp only [Act.put, List.setIfInBounds_toArray, List.set_cons_zero, List.set_cons_succ]
      refine wpAnyH_done (by kernel_rfl) ?_ _
      go_wp2_with fail
      go_meet
      exact ⟨g12, ao, cap, y, lo, hi, rfl, rfl, ⟨LOW.out, Nat.le_trans HIW4.out (by simp), LHI.out, fun W' ag => LQS4.out W' (fun g h1 h2 => (ag g h1 h2).trans (setRow_other _ _ _ _ (by have := GN.out; omega)))⟩, YM.out, RE.out, DE.out⟩
  obtain ⟨g12, ao, cap, y, lo, hi, rfl, rfl, J⟩ := hcut
  generalize wc = wx at *
  obtain ⟨⟨j1, j2, j0, j3⟩, j4, j5, j6⟩ := J.out
  have Q0 := hide j0
  have Q1 := hide j1
  have Q2 := hide j2
  have Q3 := hide j3
  have Q4 := hide j4
  have R12 := hide j5
  have D9 := hide j6
  have R8c := hide ((j6.block _ (lt_heap R8b.out)).trans R8b.out)
  have BX := hide (BZ.out ao cap)
  clear J j0 j1 j2 j3 j4 j5 j6 BZ
  generalize hBK : bkA (h17.at 2) (.slice ao 1 cap) = BK at *
  have HBK := hide hBK
  clear hBK
  go_wp2_with ((with_reducible refine at_list ?_); first | refine wpList_loadS ABk _ rfl g12 rfl BK BX.out.1 62 R12.out (by rfl) ?_ | refine wpList_storeA ABk rfl _ _ rfl (w.heap.size + 1) BK BX.out.1 BX.out.2 rfl rfl (bkA zHd (.slice none 0 0)) (bkA_size _ _) 62 R8c.out ?_)
  exact bodyPost_ret (v := .tuple #[.agg BK, .bool true]) (resA2K ABk Tryz.results102 _ _ (w.heap.size + 1) 62 _ BX.out.1 rfl (setRow_heap _ _ _ _ _ _ R8c.out) _ rfl) rfl ⟨ao, cap, y, lo, hi, by rw [HBK.out], ⟨by have := Q1.out; omega, Nat.le_trans Q2.out (by simp), Q0.out, fun W' ag => Q3.out W' (fun g h1 h2 => (ag g h1 h2).trans (setRow_other _ _ _ _ (by have := Q1.out; omega)))⟩, Q4.out, below_setRow (below_next BW.out D9.out) (by omega) _⟩
end
end Go.Proofs.YtcoojkpimbddlaaGreatDoor
