/- Disks: Clone. Maps of names to texts. -/
import Derived.Test.YthnfpdmhjennlaaV17
namespace Go.Proofs.Ythnfpdmhjennlaa
open Go.RowKit
open Go.Deep
open Go.Lib
set_option linter.unusedVariables false
theorem clone_fs {w : World} {mo : Option Nat} {f : FS} {S : Nat → Prop} (h : FsO w mo f S) (hn : f.n < 1000000) (hl : ∀ k, (f.at k).length ≤ 140737488355328) : Calls Try.prog 45 #[.map mo] w fun e w' => ∃ b2 F2, e = .returned (.map (some b2)) ∧ Fs w' b2 F2 f (fun g => w.heap.size ≤ g ∧ g < w'.heap.size) ∧ Below w.heap.size w w' := by
  rcases h with ⟨rfl, rfl, rfl⟩ | ⟨b, F, rfl, h⟩
  · exact clone_nil w
  · exact clone_any b F f S w h hn hl
section
variable {ops : Array Oper} {S : World → Prop} {o : Oper} {a : Act}
theorem yl_build (hw : Region.wanted o (yielded ops a.tmps) = true) {t : TypeId} (x : Array (Nat × Operand)) (ho : o.op = .build t x) (y : Array (Nat × Value)) (c : Array Value) (hx : x.map (fun p => (p.1, a.eval p.2)) = y) (hr : ∀ W, (Instr.build t y).run Try.prog W = .ok (.agg c) W) : YieldsIf Try.prog ops S o (.agg c) a :=
  .inl ⟨hw, fun W hW => by
    unfold execOp
    simp only [ho, hx, hr W, Sem.run_bind, Result.andThen_ok, Sem.run_pure]⟩
end
theorem run_bldD (a b : Nat) (v : Value) (m : Int) (p : Value) (d : Bool) (ao : Option Addr) (n c : Nat) (hv : v = .slice ao n c) (bo : Option Addr) (k e : Nat) (hp : p = .slice bo k e) (w : World) : (Instr.build 42 #[(0, .map (some a)), (1, .map (some b)), (2, v), (3, .int .i64 m), (4, p), (5, .bool d)]).run Try.prog w = .ok (.agg #[.map (some a), .map (some b), v, .int .i64 m, p, .bool d]) w := by
  subst hv hp
  kernel_rfl
section
set_option maxRecDepth 10000
set_option maxHeartbeats 8000000
theorem dclone_any (gd : Nat) (x : St) (T : Nat → Prop) (w : World) (h : DK w gd x T) (hV : Vd x) (hP : x.plan.length * 32 ≤ 140737488355328) : Calls Try.prog 23 #[.pointer (some ⟨gd, 0, none⟩)] w fun e w' => ∃ g', e = .returned (.pointer (some ⟨g', 0, none⟩)) ∧ DK w' g' x (fun g => w.heap.size ≤ g ∧ g < w'.heap.size) ∧ Below w.heap.size w w' := by
  obtain ⟨S1, S2, mn, ms, vo, vp, h⟩ := h
  have hbn : Bd x.now := by rw [hV.now]; exact hV.ok.end_
  have hbs : Bd x.sure := hV.ok.bd
  have hoC : OX KCh w vo x.loose := by
    have := h.loose
    rw [chs_flat] at this
    exact this
  have hoF : OX KFl w vp x.plan := by
    have := h.plan
    rw [fls_flat] at this
    exact this
  have C1 : Hid (∀ W, Below w.heap.size w W → Calls Try.prog 45 #[.map mn] W fun e w' => ∃ b2 F2, e = .returned (.map (some b2)) ∧ Fs w' b2 F2 x.now (fun g => W.heap.size ≤ g ∧ g < w'.heap.size) ∧ Below W.heap.size W w') := fun W b => clone_fs (h.below b).now (by have := hbn.n; omega) (fun k => by have := hbn.len k; omega)
  have C2 : Hid (∀ W, Below w.heap.size w W → Calls Try.prog 45 #[.map ms] W fun e w' => ∃ b2 F2, e = .returned (.map (some b2)) ∧ Fs w' b2 F2 x.sure (fun g => W.heap.size ≤ g ∧ g < w'.heap.size) ∧ Below W.heap.size W w') := fun W b => clone_fs (h.below b).sure (by have := hbs.n; omega) (fun k => by have := hbs.len k; omega)
  have C3 : Hid (∀ W, Below w.heap.size w W → Calls Try.prog 46 #[vo] W fun e w' => ∃ v', e = .returned v' ∧ OX KCh w' v' x.loose ∧ Below W.heap.size W w' ∧ ∀ g, v'.ownBlock = some g → W.heap.size ≤ g) := fun W b => cloneC_any vo x.loose W (hoC.below b).read (by have := hV.many; omega)
  have C4 : Hid (∀ W, Below w.heap.size w W → Calls Try.prog 44 #[vp] W fun e w' => ∃ v', e = .returned v' ∧ OX KFl w' v' x.plan ∧ Below W.heap.size W w' ∧ ∀ g, v'.ownBlock = some g → W.heap.size ≤ g) := fun W b => cloneF_any vp x.plan W (hoF.below b).read hP
  have CE : Hid (∀ W, Below w.heap.size w W → W.cell? ⟨gd, 0, none⟩ = some (.map mn) ∧ W.cell? ⟨gd, 1, none⟩ = some (.map ms) ∧ W.cell? ⟨gd, 2, none⟩ = some vo ∧ W.cell? ⟨gd, 3, none⟩ = some (.int .i64 (x.made : Int)) ∧ W.cell? ⟨gd, 4, none⟩ = some vp ∧ W.cell? ⟨gd, 5, none⟩ = some (.bool x.dead)) := fun W b => ⟨(h.below b).cell 0 (by decide), (h.below b).cell 1 (by decide), (h.below b).cell 2 (by decide), (h.below b).cell 3 (by decide), (h.below b).cell 4 (by decide), (h.below b).cell 5 (by decide)⟩
  obtain ⟨aoo, coo, rfl⟩ := hoC.form
  obtain ⟨aop, cop, rfl⟩ := hoF.form
  have DV0 := hide ((Below.refl w.heap.size w).drew)
  clear h hV hP hbn hbs hoC hoF
  go_enter Try.func23, Try.ntmps23
  go_upto_region 3 with fail
  refine wp_region_held_drew (S := fun W => Below w.heap.size w W) (by kernel_rfl) DV0.out (fun hH => ?_)
  generalize w.drew = V0 at *
  refine wpAnyH_take (i := 0) (v := (.pointer (some ⟨gd, 0, none⟩))) rfl (by kernel_rfl) (by kernel_rfl) (by kernel_rfl) (fun _ _ _ h => h) (yl_move (by rfl) _ (by rfl) _ (by rfl)) hH ?_
  change wpAnyH _ _ _ _ _ _ _ (Act.put _ (some 5) _) _
  simp only [Act.put, List.setIfInBounds_toArray, List.set_cons_zero, List.set_cons_succ]
  refine wpAnyH_take (i := 1) (v := (.pointer (some ⟨gd, 0, none⟩))) rfl (by kernel_rfl) (by kernel_rfl) (by kernel_rfl) (fun _ _ _ h => h) (.inl ⟨by rfl, fun W _ => by go_simp⟩) hH ?_
  change wpAnyH _ _ _ _ _ _ _ (Act.put _ (some 6) _) _
  simp only [Act.put, List.setIfInBounds_toArray, List.set_cons_zero, List.set_cons_succ]
  refine wpAnyH_take (i := 2) (v := (.pointer (some ⟨gd, 0, none⟩))) rfl (by kernel_rfl) (by kernel_rfl) (by kernel_rfl) (fun _ _ _ h => h) (.inl ⟨by rfl, fun W _ => by go_simp⟩) hH ?_
  change wpAnyH _ _ _ _ _ _ _ (Act.put _ (some 7) _) _
  simp only [Act.put, List.setIfInBounds_toArray, List.set_cons_zero, List.set_cons_succ]
  refine wpAnyH_take (i := 3) (v := (.map mn)) rfl (by kernel_rfl) (by kernel_rfl) (by kernel_rfl) (fun _ _ _ h => h) (.inl ⟨by rfl, fun W hS => by have c4 := (CE.out W hS).1; go_simp⟩) hH ?_
  change wpAnyH _ _ _ _ _ _ _ (Act.put _ (some 8) _) _
  simp only [Act.put, List.setIfInBounds_toArray, List.set_cons_zero, List.set_cons_succ]
  refine wpAnyH_take (i := 5) (v := (.pointer (some ⟨gd, 0, none⟩))) rfl (by kernel_rfl) (by kernel_rfl) (by kernel_rfl) (fun _ _ _ h => h) (yl_move (by rfl) _ (by rfl) _ (by rfl)) hH ?_
  change wpAnyH _ _ _ _ _ _ _ (Act.put _ (some 10) _) _
  simp only [Act.put, List.setIfInBounds_toArray, List.set_cons_zero, List.set_cons_succ]
  refine wpAnyH_take (i := 6) (v := (.pointer (some ⟨gd, 0, none⟩))) rfl (by kernel_rfl) (by kernel_rfl) (by kernel_rfl) (fun _ _ _ h => h) (.inl ⟨by rfl, fun W _ => by go_simp⟩) hH ?_
  change wpAnyH _ _ _ _ _ _ _ (Act.put _ (some 11) _) _
  simp only [Act.put, List.setIfInBounds_toArray, List.set_cons_zero, List.set_cons_succ]
  refine wpAnyH_take (i := 7) (v := (.pointer (some ⟨gd, 1, none⟩))) rfl (by kernel_rfl) (by kernel_rfl) (by kernel_rfl) (fun _ _ _ h => h) (.inl ⟨by rfl, fun W _ => by go_simp⟩) hH ?_
  change wpAnyH _ _ _ _ _ _ _ (Act.put _ (some 12) _) _
  simp only [Act.put, List.setIfInBounds_toArray, List.set_cons_zero, List.set_cons_succ]
  refine wpAnyH_take (i := 8) (v := (.map ms)) rfl (by kernel_rfl) (by kernel_rfl) (by kernel_rfl) (fun _ _ _ h => h) (.inl ⟨by rfl, fun W hS => by have c4 := (CE.out W hS).2.1; go_simp⟩) hH ?_
  change wpAnyH _ _ _ _ _ _ _ (Act.put _ (some 13) _) _
  simp only [Act.put, List.setIfInBounds_toArray, List.set_cons_zero, List.set_cons_succ]
  refine wpAnyH_take (i := 10) (v := (.pointer (some ⟨gd, 0, none⟩))) rfl (by kernel_rfl) (by kernel_rfl) (by kernel_rfl) (fun _ _ _ h => h) (yl_move (by rfl) _ (by rfl) _ (by rfl)) hH ?_
  change wpAnyH _ _ _ _ _ _ _ (Act.put _ (some 15) _) _
  simp only [Act.put, List.setIfInBounds_toArray, List.set_cons_zero, List.set_cons_succ]
  refine wpAnyH_take (i := 11) (v := (.pointer (some ⟨gd, 0, none⟩))) rfl (by kernel_rfl) (by kernel_rfl) (by kernel_rfl) (fun _ _ _ h => h) (.inl ⟨by rfl, fun W _ => by go_simp⟩) hH ?_
  change wpAnyH _ _ _ _ _ _ _ (Act.put _ (some 16) _) _
  simp only [Act.put, List.setIfInBounds_toArray, List.set_cons_zero, List.set_cons_succ]
  refine wpAnyH_take (i := 12) (v := (.pointer (some ⟨gd, 2, none⟩))) rfl (by kernel_rfl) (by kernel_rfl) (by kernel_rfl) (fun _ _ _ h => h) (.inl ⟨by rfl, fun W _ => by go_simp⟩) hH ?_
  change wpAnyH _ _ _ _ _ _ _ (Act.put _ (some 17) _) _
  simp only [Act.put, List.setIfInBounds_toArray, List.set_cons_zero, List.set_cons_succ]
  refine wpAnyH_take (i := 13) (v := (.slice aoo x.loose.length coo)) rfl (by kernel_rfl) (by kernel_rfl) (by kernel_rfl) (fun _ _ _ h => h) (.inl ⟨by rfl, fun W hS => by have c4 := (CE.out W hS).2.2.1; go_simp⟩) hH ?_
  change wpAnyH _ _ _ _ _ _ _ (Act.put _ (some 18) _) _
  simp only [Act.put, List.setIfInBounds_toArray, List.set_cons_zero, List.set_cons_succ]
  refine wpAnyH_take (i := 15) (v := (.pointer (some ⟨gd, 0, none⟩))) rfl (by kernel_rfl) (by kernel_rfl) (by kernel_rfl) (fun _ _ _ h => h) (yl_move (by rfl) _ (by rfl) _ (by rfl)) hH ?_
  change wpAnyH _ _ _ _ _ _ _ (Act.put _ (some 20) _) _
  simp only [Act.put, List.setIfInBounds_toArray, List.set_cons_zero, List.set_cons_succ]
  refine wpAnyH_take (i := 16) (v := (.pointer (some ⟨gd, 0, none⟩))) rfl (by kernel_rfl) (by kernel_rfl) (by kernel_rfl) (fun _ _ _ h => h) (.inl ⟨by rfl, fun W _ => by go_simp⟩) hH ?_
  change wpAnyH _ _ _ _ _ _ _ (Act.put _ (some 21) _) _
  simp only [Act.put, List.setIfInBounds_toArray, List.set_cons_zero, List.set_cons_succ]
  refine wpAnyH_take (i := 17) (v := (.pointer (some ⟨gd, 3, none⟩))) rfl (by kernel_rfl) (by kernel_rfl) (by kernel_rfl) (fun _ _ _ h => h) (.inl ⟨by rfl, fun W _ => by go_simp⟩) hH ?_
  change wpAnyH _ _ _ _ _ _ _ (Act.put _ (some 22) _) _
  simp only [Act.put, List.setIfInBounds_toArray, List.set_cons_zero, List.set_cons_succ]
  refine wpAnyH_take (i := 18) (v := (.int .i64 (x.made : Int))) rfl (by kernel_rfl) (by kernel_rfl) (by kernel_rfl) (fun _ _ _ h => h) (.inl ⟨by rfl, fun W hS => by have c4 := (CE.out W hS).2.2.2.1; go_simp⟩) hH ?_
  change wpAnyH _ _ _ _ _ _ _ (Act.put _ (some 23) _) _
  simp only [Act.put, List.setIfInBounds_toArray, List.set_cons_zero, List.set_cons_succ]
  refine wpAnyH_take (i := 19) (v := (.pointer (some ⟨gd, 0, none⟩))) rfl (by kernel_rfl) (by kernel_rfl) (by kernel_rfl) (fun _ _ _ h => h) (yl_move (by rfl) _ (by rfl) _ (by rfl)) hH ?_
  change wpAnyH _ _ _ _ _ _ _ (Act.put _ (some 24) _) _
  simp only [Act.put, List.setIfInBounds_toArray, List.set_cons_zero, List.set_cons_succ]
  refine wpAnyH_take (i := 20) (v := (.pointer (some ⟨gd, 0, none⟩))) rfl (by kernel_rfl) (by kernel_rfl) (by kernel_rfl) (fun _ _ _ h => h) (.inl ⟨by rfl, fun W _ => by go_simp⟩) hH ?_
  change wpAnyH _ _ _ _ _ _ _ (Act.put _ (some 25) _) _
  simp only [Act.put, List.setIfInBounds_toArray, List.set_cons_zero, List.set_cons_succ]
  refine wpAnyH_take (i := 21) (v := (.pointer (some ⟨gd, 4, none⟩))) rfl (by kernel_rfl) (by kernel_rfl) (by kernel_rfl) (fun _ _ _ h => h) (.inl ⟨by rfl, fun W _ => by go_simp⟩) hH ?_
  change wpAnyH _ _ _ _ _ _ _ (Act.put _ (some 26) _) _
  simp only [Act.put, List.setIfInBounds_toArray, List.set_cons_zero, List.set_cons_succ]
  refine wpAnyH_take (i := 22) (v := (.slice aop x.plan.length cop)) rfl (by kernel_rfl) (by kernel_rfl) (by kernel_rfl) (fun _ _ _ h => h) (.inl ⟨by rfl, fun W hS => by have c4 := (CE.out W hS).2.2.2.2.1; go_simp⟩) hH ?_
  change wpAnyH _ _ _ _ _ _ _ (Act.put _ (some 27) _) _
  simp only [Act.put, List.setIfInBounds_toArray, List.set_cons_zero, List.set_cons_succ]
  refine wpAnyH_take (i := 24) (v := (.pointer (some ⟨gd, 0, none⟩))) rfl (by kernel_rfl) (by kernel_rfl) (by kernel_rfl) (fun _ _ _ h => h) (yl_move (by rfl) _ (by rfl) _ (by rfl)) hH ?_
  change wpAnyH _ _ _ _ _ _ _ (Act.put _ (some 29) _) _
  simp only [Act.put, List.setIfInBounds_toArray, List.set_cons_zero, List.set_cons_succ]
  refine wpAnyH_take (i := 25) (v := (.pointer (some ⟨gd, 0, none⟩))) rfl (by kernel_rfl) (by kernel_rfl) (by kernel_rfl) (fun _ _ _ h => h) (.inl ⟨by rfl, fun W _ => by go_simp⟩) hH ?_
  change wpAnyH _ _ _ _ _ _ _ (Act.put _ (some 30) _) _
  simp only [Act.put, List.setIfInBounds_toArray, List.set_cons_zero, List.set_cons_succ]
  refine wpAnyH_take (i := 26) (v := (.pointer (some ⟨gd, 5, none⟩))) rfl (by kernel_rfl) (by kernel_rfl) (by kernel_rfl) (fun _ _ _ h => h) (.inl ⟨by rfl, fun W _ => by go_simp⟩) hH ?_
  change wpAnyH _ _ _ _ _ _ _ (Act.put _ (some 31) _) _
  simp only [Act.put, List.setIfInBounds_toArray, List.set_cons_zero, List.set_cons_succ]
  refine wpAnyH_take (i := 27) (v := (.bool x.dead)) rfl (by kernel_rfl) (by kernel_rfl) (by kernel_rfl) (fun _ _ _ h => h) (.inl ⟨by rfl, fun W hS => by have c4 := (CE.out W hS).2.2.2.2.2; go_simp⟩) hH ?_
  change wpAnyH _ _ _ _ _ _ _ (Act.put _ (some 32) _) _
  simp only [Act.put, List.setIfInBounds_toArray, List.set_cons_zero, List.set_cons_succ]
  refine wpAnyH_ready (rs := [4]) (by kernel_rfl) (by simp) (AllReadyH.cons rfl (fun K1 hK1 => ?_) AllReadyH.nil)
  go_simp
  refine (C1.out V0 DV0.out).mono ?_
  rintro r V1 ⟨b1, F1, rfl, f1, be⟩
  have DV1 := hide (below_next DV0.out be)
  have A1 := hide f1
  have Z1 := hide be.size
  clear f1 be
  refine hK1.out _ _ DV1.out (fun hH => ?_)
  clear hK1
  refine wpAnyH_ready (rs := [9]) (by kernel_rfl) (by simp) (AllReadyH.cons rfl (fun K1 hK1 => ?_) AllReadyH.nil)
  go_simp
  refine (C2.out V1 DV1.out).mono ?_
  rintro r V2 ⟨b2, F2, rfl, f2, be⟩
  have DV2 := hide (below_next DV1.out be)
  have A2 := hide (And.intro (A1.out.frame be.size (fun g hg => be.block g hg.2)) f2)
  have Z2 := hide be.size
  clear f2 be A1
  refine hK1.out _ _ DV2.out (fun hH => ?_)
  clear hK1
  refine wpAnyH_ready (rs := [14]) (by kernel_rfl) (by simp) (AllReadyH.cons rfl (fun K1 hK1 => ?_) AllReadyH.nil)
  go_simp
  refine (C3.out V2 DV2.out).mono ?_
  rintro r V3 ⟨v3, rfl, o3, be, far⟩
  have DV3 := hide (below_next DV2.out be)
  obtain ⟨ao3, c3, rfl⟩ := o3.form
  have A3 := hide (And.intro (And.intro (A2.out.1.frame be.size (fun g hg => be.block g (by have := Z2.out; omega))) (A2.out.2.frame be.size (fun g hg => be.block g hg.2))) (And.intro o3 far))
  have Z3 := hide be.size
  clear o3 far be A2
  refine hK1.out _ _ DV3.out (fun hH => ?_)
  clear hK1
  refine wpAnyH_ready (rs := [23]) (by kernel_rfl) (by simp) (AllReadyH.cons rfl (fun K1 hK1 => ?_) AllReadyH.nil)
  go_simp
  refine (C4.out V3 DV3.out).mono ?_
  rintro r V4 ⟨v4, rfl, o4, be, far⟩
  have DV4 := hide (below_next DV3.out be)
  obtain ⟨ao4, c4, rfl⟩ := o4.form
  have A4 := hide (And.intro (And.intro (A3.out.1.1.frame be.size (fun g hg => be.block g (by have := Z2.out; have := Z3.out; omega))) (A3.out.1.2.frame be.size (fun g hg => be.block g (by have := Z3.out; omega)))) (And.intro (And.intro (A3.out.2.1.below be) A3.out.2.2) (And.intro o4 far)))
  have Z4 := hide be.size
  clear o4 far be A3
  refine hK1.out _ _ DV4.out (fun hH => ?_)
  clear hK1
  refine wpAnyH_take (i := 28) (v := (.agg #[.map (some b1), .map (some b2), .slice ao3 x.loose.length c3, .int .i64 (x.made : Int), .slice ao4 x.plan.length c4, .bool x.dead])) rfl (by kernel_rfl) (by kernel_rfl) (by kernel_rfl) (fun _ _ _ h => h) (yl_build (by rfl) _ (by rfl) #[(0, .map (some b1)), (1, .map (some b2)), (2, .slice ao3 x.loose.length c3), (3, .int .i64 (x.made : Int)), (4, .slice ao4 x.plan.length c4), (5, .bool x.dead)] _ (by simp only [List.map_toArray, List.map_cons, List.map_nil]; rfl) (run_bldD b1 b2 _ _ _ _ ao3 _ c3 rfl ao4 _ c4 rfl)) hH ?_
  change wpAnyH _ _ _ _ _ _ _ (Act.put _ (some 33) _) _
  simp only [Act.put, List.setIfInBounds_toArray, List.set_cons_zero, List.set_cons_succ]
  refine wpAnyH_ready (rs := [29]) (by kernel_rfl) (by simp) (AllReadyH.cons rfl (fun K1 hK1 => ?_) AllReadyH.nil)
  go_simp
  have b5 := (Below.refl V4.heap.size V4).alloc (Nat.le_refl _) (.cells #[.map (some b1), .map (some b2), .slice ao3 x.loose.length c3, .int .i64 (x.made : Int), .slice ao4 x.plan.length c4, .bool x.dead] 42)
  have r5 := heap_alloc_last V4 (.cells #[.map (some b1), .map (some b2), .slice ao3 x.loose.length c3, .int .i64 (x.made : Int), .slice ao4 x.plan.length c4, .bool x.dead] 42)
  have DV5 := hide (below_next DV4.out b5)
  have z0 := DV0.out.size
  have z1 := Z1.out
  have z2 := Z2.out
  have z3 := Z3.out
  have z4 := Z4.out
  have l3 := A4.out.2.1.1.lt
  have l4 := A4.out.2.2.1.lt
  have f3 := A4.out.2.1.2
  have f4 := A4.out.2.2.2
  have z5 : (V4.alloc (.cells #[.map (some b1), .map (some b2), .slice ao3 x.loose.length c3, .int .i64 (x.made : Int), .slice ao4 x.plan.length c4, .bool x.dead] 42)).heap.size = V4.heap.size + 1 := by simp
  have FIN : Hid (DK (V4.alloc (.cells #[.map (some b1), .map (some b2), .slice ao3 x.loose.length c3, .int .i64 (x.made : Int), .slice ao4 x.plan.length c4, .bool x.dead] 42)) V4.heap.size x (fun g => w.heap.size ≤ g ∧ g < (V4.alloc (.cells #[.map (some b1), .map (some b2), .slice ao3 x.loose.length c3, .int .i64 (x.made : Int), .slice ao4 x.plan.length c4, .bool x.dead] 42)).heap.size)) := by
    refine ⟨fun g => V0.heap.size ≤ g ∧ g < V1.heap.size, fun g => V1.heap.size ≤ g ∧ g < V2.heap.size, some b1, some b2, .slice ao3 x.loose.length c3, .slice ao4 x.plan.length c4, ?_⟩
    rw [z5]
    refine ⟨⟨_, r5, rfl, fun i hi => ?_⟩, .inr ⟨b1, F1, rfl, A4.out.1.1.frame b5.size (fun g hg => b5.block g (by omega))⟩, .inr ⟨b2, F2, rfl, A4.out.1.2.frame b5.size (fun g hg => b5.block g (by omega))⟩, ?_, ?_, ⟨by omega, by omega⟩, fun g hg => ⟨by omega, by omega⟩, fun g hg => ⟨by omega, by omega⟩, fun g hg => ?_, fun g hg => ?_, fun g h1 h2 => by omega, fun hg => by omega, fun hg => by omega, fun g hg => ?_, fun g hg => ?_, fun g hg => by rw [z5]; exact hg.2⟩
    · have : i = 0 ∨ i = 1 ∨ i = 2 ∨ i = 3 ∨ i = 4 ∨ i = 5 := by omega
      rcases this with rfl | rfl | rfl | rfl | rfl | rfl <;> rfl
    · rw [chs_flat]
      exact A4.out.2.1.1.below b5
    · rw [fls_flat]
      exact A4.out.2.2.1.below b5
    · have := f3 g hg
      have := l3 g hg
      exact ⟨by omega, by omega⟩
    · have := f4 g hg
      have := l4 g hg
      exact ⟨by omega, by omega⟩
    · have := f3 g hg
      have := l3 g hg
      exact ⟨fun e => by omega, fun e => by omega, by omega⟩
    · have := f4 g hg
      have := l4 g hg
      exact ⟨fun e => by omega, fun e => by omega, by omega⟩
  clear r5 b5 A4 l3 l4 f3 f4 z5 z0 z1 z2 z3 z4
  refine hK1.out _ _ DV5.out (fun hH => ?_)
  clear hK1
  refine wpAnyH_ready (rs := [30]) (by kernel_rfl) (by simp) (AllReadyH.cons rfl (fun K1 hK1 => ?_) AllReadyH.nil)
  go_simp
  refine hK1.out _ _ DV5.out (fun hH => ?_)
  clear hK1
  refine wpAnyH_done (by kernel_rfl) ?_ _
  clear hH
  generalize V4.alloc (.cells #[.map (some b1), .map (some b2), .slice ao3 x.loose.length c3, .int .i64 (x.made : Int), .slice ao4 x.plan.length c4, .bool x.dead] 42) = V5 at *
  go_wp2
  go_ret
  exact ⟨_, rfl, FIN.out, DV5.out⟩
end
end Go.Proofs.Ythnfpdmhjennlaa
namespace Go.Proofs.Ythnfpdmhjennlaa
open Go.RowKit
open Go.Deep
open Go.Maps
set_option linter.unusedVariables false
/-- How a text of a map reads. -/
def txE : Value → Option (DataW Unit × List MemPlace)
  | .string s => some (.lit (.string s.data.toList), [])
  | _ => none
theorem txE_inj {v : Value} {l : List UInt8} {p : List MemPlace} (h : txE v = some (.lit (.string l), p)) : v = .string ⟨l.toArray⟩ := by
  unfold txE at h
  split at h
  · rename_i s
    simp only [Option.some.injEq, Prod.mk.injEq, DataW.lit.injEq, Lit.string.injEq] at h
    rw [← h.1]
  · cases h
theorem zeroTx (w : World) : (zeroValue 9).run Try.prog w = .ok (.string ⟨#[]⟩) w := by kernel_rfl
/-- Block b is a map that holds, of each name, the text that G says; n names in all. -/
structure Mt (w : World) (b : Nat) (G : List UInt8 → Option (List UInt8)) (n : Nat) : Prop where
  ex : ∃ D : DataW Unit, w.ownsMap Try.prog 9 txE b n D ∧ (∀ k, Maps.has D (.string k) = (G k).isSome) ∧ (∀ k l, G k = some l → ∀ zd, D.atKey (.string k) zd = .lit (.string l)) ∧ Maps.size D = n
def updT (G : List UInt8 → Option (List UInt8)) (k : List UInt8) (l : List UInt8) : List UInt8 → Option (List UInt8) := fun x => if x = k then some l else G x
section
variable {w w' : World} {b n : Nat} {G : List UInt8 → Option (List UInt8)}
theorem tightT {D : DataW Unit} {m : Nat} (h : w.ownsMap Try.prog 9 txE b m D) : w.ownsMap Try.prog 9 txE b (Maps.size D) D := by
  obtain ⟨es, clock, hb, F, hs, rfl⟩ := h
  exact ⟨es, clock, hb, F, by simp [Maps.size, length_sorted], rfl⟩
theorem Mt.made (w : World) : Mt (w.alloc (.map #[] 0)) w.heap.size (fun _ => none) 0 :=
  ⟨⟨.map [], World.ownsMap_made w _ _ _, fun _ => rfl, fun k v h => (by cases h), rfl⟩⟩
theorem Mt.lt (h : Mt w b G n) : b < w.heap.size := h.ex.choose_spec.1.lt
theorem Mt.of_block (h : Mt w b G n) (e : w'.heap[b]? = w.heap[b]?) : Mt w' b G n := by
  obtain ⟨D, ⟨es, cl, hb, r⟩, r2⟩ := h.ex
  exact ⟨⟨D, ⟨es, cl, e.trans hb, r⟩, r2⟩⟩
theorem Mt.look_ok (h : Mt w b G n) {s : ByteArray} (hs : s.size ≤ maxLen) {l : List UInt8} (hv : G s.data.toList = some l) : (Instr.lookup 66 (.map (some b)) (.string s) true).run Try.prog w = .ok (.tuple #[.string ⟨l.toArray⟩, .bool true]) w := by
  obtain ⟨D, ho, hh, ha, _⟩ := h.ex
  obtain ⟨v', ps, hr, hv'⟩ := ho.look_ok lawS Try.underlying66 (zeroTx w) rfl (keyS s hs)
  rw [ha _ _ hv] at hv'
  rw [hh, hv, txE_inj hv'] at hr
  exact hr
theorem Mt.look_no (h : Mt w b G n) {s : ByteArray} (hs : s.size ≤ maxLen) (hv : G s.data.toList = none) : (Instr.lookup 66 (.map (some b)) (.string s) true).run Try.prog w = .ok (.tuple #[.string ⟨#[]⟩, .bool false]) w := by
  obtain ⟨D, ho, hh, ha, _⟩ := h.ex
  obtain ⟨v', ps, hr, hv'⟩ := ho.look_ok lawS Try.underlying66 (zeroTx w) rfl (keyS s hs)
  have hhas : Maps.has D (.string s.data.toList) = false := by rw [hh, hv]; rfl
  rw [Maps.atKey_of_not_has hhas] at hv'
  rw [hhas, txE_inj (l := []) hv'] at hr
  exact hr
theorem Mt.len (h : Mt w b G n) (ty : TypeId) : (Builtin.len_ #[66] ty #[.map (some b)]).run Try.prog w = .ok (.int .i64 (n : Int)) w := by
  obtain ⟨D, ho, _, _, hn⟩ := h.ex
  rw [← hn]
  exact ho.len Try.underlying66 ty
theorem Mt.put (h : Mt w b G n) (hn : n < maxLen) {s x : ByteArray} (hs : s.size ≤ maxLen) : ∃ w', (Instr.mapUpdate 66 (.map (some b)) (.string s) (.string x)).run Try.prog w = .ok () w' ∧ Mt w' b (updT G s.data.toList x.data.toList) (if (G s.data.toList).isSome then n else n + 1) ∧ w.mapTurned w' b := by
  obtain ⟨D, ho, hh, ha, hsz⟩ := h.ex
  obtain ⟨w', hr, ho', ht⟩ := ho.store lawS Try.underlying66 hn (keyS s hs) (show txE (.string x) = some (.lit (.string x.data.toList), []) from rfl)
  have hm := ho.isMap
  have hkl : WideAt.IsKeyLit (.string s.data.toList) := lawS.key (keyS s hs)
  have hsz' : Maps.size (D.put (.string s.data.toList) (.lit (.string x.data.toList))) = if (G s.data.toList).isSome then n else n + 1 := by
    rw [Maps.size_put (ho.tidy lawS), hh, hsz]
  refine ⟨w', hr, ⟨⟨_, by rw [← hsz']; exact tightT ho', fun k => ?_, fun k l hk => ?_, hsz'⟩⟩, ht⟩
  · unfold updT
    by_cases hk : k = s.data.toList
    · rw [if_pos hk, hk, Maps.has_put_same hm hkl]
      rfl
    · rw [if_neg hk, Maps.has_put_other (str_ne hk), hh]
  · unfold updT at hk
    by_cases e : k = s.data.toList
    · rw [if_pos e] at hk
      cases hk
      exact fun zd => by rw [e, Maps.atKey_put_same hm hkl]
    · rw [if_neg e] at hk
      exact fun zd => by rw [Maps.atKey_put_other (str_ne e), ha k l hk]
end
end Go.Proofs.Ythnfpdmhjennlaa
