/- The law's same: its contract. -/
import Derived.Test.YtfldpejdpinppaaKv
import Derived.Test.YtfldpejdpinppaaKq
namespace Go.Proofs.Ytfldpejdpinppaa
open Go.RowKit
open Go.Deep
set_option linter.unusedVariables false
theorem yl_neqX {ops : Array Oper} {S : World → Prop} {o : Oper} {a : Act} (hw : Region.wanted o (yielded ops a.tmps) = true) (t : TypeId) (x y : Operand) (t2 : TypeId) (ho : o.op = .binOp .neq t x y t2) (c d : Array Value) (hx : a.eval x = .agg c) (hy : a.eval y = .agg d) (hg : Try.prog.eqGuardType Try.prog.depth t = false) (v : Bool) (hr : ∀ W, (Op.equalIn 10000 t (.agg c) (.agg d)).run Try.prog W = .ok v W) : YieldsIf Try.prog ops S o (.bool !v) a :=
  .inl ⟨hw, fun W _ => by
    unfold execOp
    simp only [ho, hx, hy, Sem.run_bind, run_eqGuard_agg (P := Try.prog) W .neq t x y c d hg, run_neq_struct, hr W, Result.andThen_ok, Sem.run_pure]⟩
section
set_option maxRecDepth 10000
set_option maxHeartbeats 4000000
theorem lsame_any (a b : Tm) (ai : Option Addr) (ci : Nat) (ao : Option Addr) (co : Nat) (bi : Option Addr) (di : Nat) (bo : Option Addr) (d0 : Nat) (w : World) (ha : LR w a ai ci ao co) (hb : LR w b bi di bo d0) (hf : a.fit) : Calls Try.prog 10 #[.agg (a.cells ai ci ao co), .agg (b.cells bi di bo d0)] w fun r w' => r = .returned (.bool (decide (a = b))) ∧ Below w.heap.size w w' := by
  have e1 := heap_alloc_last w (.cells (a.cells ai ci ao co) 33)
  have r1 := (Below.heap_alloc _ (.cells (b.cells bi di bo d0) 33) _ (lt_heap e1)).trans e1
  have r2 := heap_alloc_last (w.alloc (.cells (a.cells ai ci ao co) 33)) (.cells (b.cells bi di bo d0) 33)
  have hsz : (w.alloc (.cells (a.cells ai ci ao co) 33)).heap.size = w.heap.size + 1 := by simp
  rw [hsz] at r2
  have b0 : Below w.heap.size w ((w.alloc (.cells (a.cells ai ci ao co) 33)).alloc (.cells (b.cells bi di bo d0) 33)) := ((Below.refl _ _).alloc (Nat.le_refl _) _).alloc (by simp) _
  have HA := hide (ha.below b0)
  have HB := hide (hb.below b0)
  have B0 := hide b0
  have HF := hide hf
  have CC : Hid (∀ W, Below ((w.alloc (.cells (a.cells ai ci ao co) 33)).alloc (.cells (b.cells bi di bo d0) 33)).heap.size ((w.alloc (.cells (a.cells ai ci ao co) 33)).alloc (.cells (b.cells bi di bo d0) 33)) W → (W.cell? ⟨w.heap.size, 0, none⟩ = some (.int .u32 (a.ver.toNat : Int)) ∧ W.cell? ⟨w.heap.size, 1, none⟩ = some (.slice ai a.ins.length ci) ∧ W.cell? ⟨w.heap.size, 2, none⟩ = some (.slice ao a.outs.length co) ∧ W.cell? ⟨w.heap.size, 3, none⟩ = some (.int .u32 (a.time.toNat : Int))) ∧ (W.cell? ⟨w.heap.size + 1, 0, none⟩ = some (.int .u32 (b.ver.toNat : Int)) ∧ W.cell? ⟨w.heap.size + 1, 1, none⟩ = some (.slice bi b.ins.length di) ∧ W.cell? ⟨w.heap.size + 1, 2, none⟩ = some (.slice bo b.outs.length d0) ∧ W.cell? ⟨w.heap.size + 1, 3, none⟩ = some (.int .u32 (b.time.toNat : Int)))) := fun W b => by
    have q1 := (b.block _ (lt_heap r1)).trans r1
    have q2 := (b.block _ (lt_heap r2)).trans r2
    refine ⟨⟨?_, ?_, ?_, ?_⟩, ?_, ?_, ?_, ?_⟩ <;> (first | (rw [cell_of_row _ _ _ _ _ _ q1]; rfl) | (rw [cell_of_row _ _ _ _ _ _ q2]; rfl))
  obtain ⟨res, hres⟩ : ∃ r : Bool, r = decide (a = b) := ⟨_, rfl⟩
  rw [← hres]
  have HR := hide hres
  clear e1 r1 r2 b0 ha hb hf hres
  generalize a.cells ai ci ao co = CA at *
  generalize b.cells bi di bo d0 = CB at *
  go_enter Try.func10, Try.ntmps10
  go_upto_region 1 with ((with_reducible refine at_list ?_); first | refine wpList_boxA rfl _ rfl CA rfl ?_ | refine wpList_boxA rfl _ rfl CB rfl ?_)
  try rw [hsz]
  clear hsz
  generalize (w.alloc (.cells CA 33)).alloc (.cells CB 33) = W0 at *
  obtain ⟨⟨c0, c1, c2, c3⟩, q0, q1, q2, q3⟩ := CC.out _ (Below.refl _ _)
  by_cases h1 : a.ver = b.ver
  case' neg =>
    have hr : res = false := by rw [HR.out]; exact decide_eq_false (fun h => h1 (by rw [h]))
    have k1 : ((a.ver.toNat : Int) != (b.ver.toNat : Int)) = true := by rw [bne_iff_ne]; intro h; exact h1 (UInt32.toNat_inj.1 (by omega))
    subst hr
    clear h1
    go_wp2
    go_ret
    exact ⟨rfl, B0.out⟩
  have k1 : ((a.ver.toNat : Int) != (b.ver.toNat : Int)) = false := by rw [h1]; simp
  by_cases h2 : a.time = b.time
  case' neg =>
    have hr : res = false := by rw [HR.out]; exact decide_eq_false (fun h => h2 (by rw [h]))
    have k2 : ((a.time.toNat : Int) != (b.time.toNat : Int)) = true := by rw [bne_iff_ne]; intro h; exact h2 (UInt32.toNat_inj.1 (by omega))
    subst hr
    clear h1 h2
    go_wp2
    go_ret
    exact ⟨rfl, B0.out⟩
  have k2 : ((a.time.toNat : Int) != (b.time.toNat : Int)) = false := by rw [h2]; simp
  by_cases h3 : a.ins.length = b.ins.length
  case' neg =>
    have hr : res = false := by rw [HR.out]; exact decide_eq_false (fun h => h3 (by rw [h]))
    have k3 : ((a.ins.length : Int) != (b.ins.length : Int)) = true := by rw [bne_iff_ne]; omega
    subst hr
    clear h1 h2 h3
    go_wp2
    go_ret
    exact ⟨rfl, B0.out⟩
  have k3 : ((a.ins.length : Int) != (b.ins.length : Int)) = false := by rw [h3]; simp
  by_cases h4 : a.outs.length = b.outs.length
  case' neg =>
    have hr : res = false := by rw [HR.out]; exact decide_eq_false (fun h => h4 (by rw [h]))
    have k4 : ((a.outs.length : Int) != (b.outs.length : Int)) = true := by rw [bne_iff_ne]; omega
    subst hr
    clear h1 h2 h3 h4
    go_wp2
    go_ret
    exact ⟨rfl, B0.out⟩
  have k4 : ((a.outs.length : Int) != (b.outs.length : Int)) = false := by rw [h4]; simp
  have H14 := hide (And.intro (And.intro h1 h2) (And.intro h3 h4))
  clear h1 h2 h3 h4
  go_upto_region 4 with fail
  clear c0 c1 c2 c3 q0 q1 q2 q3 k1 k2 k3 k4
  go_loopw [40] (fun i wr => ∃ k : Nat, k ≤ a.ins.length ∧ i = .int .i64 (k : Int) ∧ Hid ((∀ j, j < k → a.ins[j]? = b.ins[j]?) ∧ Below W0.heap.size W0 wr)) (fun i _ => (a.ins.length - intOf i).toNat)
  case atStart => exact ⟨0, Nat.zero_le _, rfl, (fun j hj => by omega), Below.refl _ _⟩
  case round =>
    obtain ⟨k, hk, rfl, J⟩ := hrel
    by_cases hlt : k < a.ins.length
    · have h1 : (k : Int) < (a.ins.length : Int) := by omega
      have h2 : (0 : Int) ≤ (k : Int) := by omega
      have hlb : k < b.ins.length := by have := H14.out.2; omega
      have h3 : (k : Int) < (b.ins.length : Int) := by omega
      have h5 := HF.out.i
      have e1 : IntKind.i64.wrap ((k : Int) + 1) = k + 1 := wrapI _ (by omega) (by omega)
      have KK := hide (And.intro (show k + 1 ≤ a.ins.length by omega) (show ((a.ins.length : Int) - ((k : Int) + 1)).toNat < ((a.ins.length : Int) - (k : Int)).toNat by omega))
      obtain ⟨ga, oa, hga⟩ := HA.out.i.base (by omega)
      subst hga
      obtain ⟨gb, ob, hgb⟩ := HB.out.i.base (by omega)
      subst hgb
      have RA : Hid (∀ W, Below W0.heap.size W0 W → W.rangeAt ga (oa + k * 35) a.ins[k].cells) := fun W h => (HA.out.below h).i.range k hlt
      have RB : Hid (∀ W, Below W0.heap.size W0 W → W.rangeAt gb (ob + k * 35) b.ins[k].cells) := fun W h => (HB.out.below h).i.range k hlb
      have HX : Hid (a.ins[k]? = some a.ins[k]) := List.getElem?_eq_getElem hlt
      have HY : Hid (b.ins[k]? = some b.ins[k]) := List.getElem?_eq_getElem hlb
      have JE := hide J.out.1
      have JB := hide J.out.2
      generalize a.ins[k] = x at *
      generalize b.ins[k] = y at *
      have EQ := hide (fun W => eqTr x y W)
      clear hk hlt hlb h5 J
      go_upto_region 6 with fail
      refine wp_region_held_drew (S := fun W => Below W0.heap.size W0 W) (by kernel_rfl) JB.out.drew (fun hH => ?_)
      have D1 := hide JB.out.drew
      generalize wr.drew = V1 at *
      refine wpAnyH_take (i := 0) (v := (.pointer (some ⟨w.heap.size, 1, none⟩))) rfl (by kernel_rfl) (by kernel_rfl) (by kernel_rfl) (fun _ _ _ h => h) (.inl ⟨by rfl, fun W _ => by go_simp⟩) hH ?_
      change wpAnyH _ _ _ _ _ _ _ (Act.put _ (some 43) _) _
      simp only [Act.put, List.setIfInBounds_toArray, List.set_cons_zero, List.set_cons_succ]
      refine wpAnyH_take (i := 1) (v := (.slice (some ⟨ga, oa, none⟩) a.ins.length ci)) rfl (by kernel_rfl) (by kernel_rfl) (by kernel_rfl) (fun _ _ _ h => h) (.inl ⟨by rfl, fun W hS => by have c4 := (CC.out W hS).1.2.1; go_simp⟩) hH ?_
      change wpAnyH _ _ _ _ _ _ _ (Act.put _ (some 44) _) _
      simp only [Act.put, List.setIfInBounds_toArray, List.set_cons_zero, List.set_cons_succ]
      refine wpAnyH_take (i := 2) (v := (.int .i64 (k : Int))) rfl (by kernel_rfl) (by kernel_rfl) (by kernel_rfl) (fun _ _ _ h => h) (yl_move (by rfl) _ (by rfl) _ (by rfl)) hH ?_
      change wpAnyH _ _ _ _ _ _ _ (Act.put _ (some 45) _) _
      simp only [Act.put, List.setIfInBounds_toArray, List.set_cons_zero, List.set_cons_succ]
      refine wpAnyH_take (i := 3) (v := (.pointer (some ⟨ga, oa + k * 35, none⟩))) rfl (by kernel_rfl) (by kernel_rfl) (by kernel_rfl) (fun _ _ _ h => h) (.inl ⟨by rfl, fun W _ => by go_simp⟩) hH ?_
      change wpAnyH _ _ _ _ _ _ _ (Act.put _ (some 46) _) _
      simp only [Act.put, List.setIfInBounds_toArray, List.set_cons_zero, List.set_cons_succ]
      refine wpAnyH_take (i := 4) (v := (.agg x.cells.toArray)) rfl (by kernel_rfl) (by kernel_rfl) (by kernel_rfl) (fun _ _ _ h => h) (yl_load (by rfl) _ (by rfl) _ x.cells.toArray (by rfl) (fun W hS => KAr.load x Try.underlying80 rfl (RA.out W hS))) hH ?_
      change wpAnyH _ _ _ _ _ _ _ (Act.put _ (some 47) _) _
      simp only [Act.put, List.setIfInBounds_toArray, List.set_cons_zero, List.set_cons_succ]
      refine wpAnyH_take (i := 5) (v := (.pointer (some ⟨w.heap.size + 1, 1, none⟩))) rfl (by kernel_rfl) (by kernel_rfl) (by kernel_rfl) (fun _ _ _ h => h) (.inl ⟨by rfl, fun W _ => by go_simp⟩) hH ?_
      change wpAnyH _ _ _ _ _ _ _ (Act.put _ (some 48) _) _
      simp only [Act.put, List.setIfInBounds_toArray, List.set_cons_zero, List.set_cons_succ]
      refine wpAnyH_take (i := 6) (v := (.slice (some ⟨gb, ob, none⟩) b.ins.length di)) rfl (by kernel_rfl) (by kernel_rfl) (by kernel_rfl) (fun _ _ _ h => h) (.inl ⟨by rfl, fun W hS => by have c4 := (CC.out W hS).2.2.1; go_simp⟩) hH ?_
      change wpAnyH _ _ _ _ _ _ _ (Act.put _ (some 49) _) _
      simp only [Act.put, List.setIfInBounds_toArray, List.set_cons_zero, List.set_cons_succ]
      refine wpAnyH_take (i := 7) (v := (.int .i64 (k : Int))) rfl (by kernel_rfl) (by kernel_rfl) (by kernel_rfl) (fun _ _ _ h => h) (yl_move (by rfl) _ (by rfl) _ (by rfl)) hH ?_
      change wpAnyH _ _ _ _ _ _ _ (Act.put _ (some 50) _) _
      simp only [Act.put, List.setIfInBounds_toArray, List.set_cons_zero, List.set_cons_succ]
      refine wpAnyH_take (i := 8) (v := (.pointer (some ⟨gb, ob + k * 35, none⟩))) rfl (by kernel_rfl) (by kernel_rfl) (by kernel_rfl) (fun _ _ _ h => h) (.inl ⟨by rfl, fun W _ => by go_simp⟩) hH ?_
      change wpAnyH _ _ _ _ _ _ _ (Act.put _ (some 51) _) _
      simp only [Act.put, List.setIfInBounds_toArray, List.set_cons_zero, List.set_cons_succ]
      refine wpAnyH_take (i := 9) (v := (.agg y.cells.toArray)) rfl (by kernel_rfl) (by kernel_rfl) (by kernel_rfl) (fun _ _ _ h => h) (yl_load (by rfl) _ (by rfl) _ y.cells.toArray (by rfl) (fun W hS => KAr.load y Try.underlying80 rfl (RB.out W hS))) hH ?_
      change wpAnyH _ _ _ _ _ _ _ (Act.put _ (some 52) _) _
      simp only [Act.put, List.setIfInBounds_toArray, List.set_cons_zero, List.set_cons_succ]
      by_cases hxy : x = y
      · rw [decide_eq_true hxy] at EQ
        refine wpAnyH_take (i := 10) (v := (.bool false)) rfl (by kernel_rfl) (by kernel_rfl) (by kernel_rfl) (fun _ _ _ h => h) (yl_neqX (by rfl) 80 _ _ _ (by rfl) x.cells.toArray y.cells.toArray (by rfl) (by rfl) (by kernel_rfl) true EQ.out) hH ?_
        change wpAnyH _ _ _ _ _ _ _ (Act.put _ (some 53) _) _
        simp only [Act.put, List.setIfInBounds_toArray, List.set_cons_zero, List.set_cons_succ]
        refine wpAnyH_done (by kernel_rfl) ?_ _
        clear hH
        have HN : Hid (∀ j, j < k + 1 → a.ins[j]? = b.ins[j]?) := fun j hj => by
          rcases Nat.lt_or_ge j k with h | h
          · exact JE.out j h
          · rw [show j = k by omega, HX.out, HY.out, hxy]
        clear hxy
        go_wp2
        exact ⟨⟨k + 1, KK.out.1, by go_num, HN.out, D1.out⟩, by simpa [intOf] using KK.out.2⟩
      · rw [decide_eq_false hxy] at EQ
        refine wpAnyH_take (i := 10) (v := (.bool true)) rfl (by kernel_rfl) (by kernel_rfl) (by kernel_rfl) (fun _ _ _ h => h) (yl_neqX (by rfl) 80 _ _ _ (by rfl) x.cells.toArray y.cells.toArray (by rfl) (by rfl) (by kernel_rfl) false EQ.out) hH ?_
        change wpAnyH _ _ _ _ _ _ _ (Act.put _ (some 53) _) _
        simp only [Act.put, List.setIfInBounds_toArray, List.set_cons_zero, List.set_cons_succ]
        refine wpAnyH_done (by kernel_rfl) ?_ _
        clear hH
        have hr : res = false := by
          rw [HR.out]
          refine decide_eq_false (fun h => hxy ?_)
          have e := HX.out
          rw [h, HY.out] at e
          exact (Option.some.inj e).symm
        subst hr
        clear hxy
        go_wp2
        go_ret
        exact ⟨rfl, below_next B0.out D1.out⟩
    · have h1 : ¬ (k : Int) < (a.ins.length : Int) := by omega
      have EI : Hid (a.ins = b.ins) := by
        show _ = _
        apply List.ext_getElem?
        intro i
        rcases Nat.lt_or_ge i k with h | h
        · exact J.out.1 i h
        · rw [List.getElem?_eq_none (by omega), List.getElem?_eq_none (by have := H14.out.2; omega)]
      have B1 := hide J.out.2
      obtain ⟨⟨c0, c1, c2, c3⟩, q0, q1, q2, q3⟩ := CC.out _ J.out.2
      clear hk hlt J c0 c1 c3 q0 q1 q3
      go_upto_region 10 with fail
      clear c2 q2 h1
      go_loopw [58] (fun i wr => ∃ k : Nat, k ≤ a.outs.length ∧ i = .int .i64 (k : Int) ∧ Hid ((∀ j, j < k → a.outs[j]? = b.outs[j]?) ∧ Below W0.heap.size W0 wr)) (fun i _ => (a.outs.length - intOf i).toNat)
      case atStart => exact ⟨0, Nat.zero_le _, rfl, (fun j hj => by omega), B1.out⟩
      case round =>
        obtain ⟨k, hk, rfl, J⟩ := hrel
        by_cases hlt : k < a.outs.length
        · have h1 : (k : Int) < (a.outs.length : Int) := by omega
          have h2 : (0 : Int) ≤ (k : Int) := by omega
          have hlb : k < b.outs.length := by have := H14.out.2; omega
          have h3 : (k : Int) < (b.outs.length : Int) := by omega
          have h5 := HF.out.o
          have e1 : IntKind.i64.wrap ((k : Int) + 1) = k + 1 := wrapI _ (by omega) (by omega)
          have KK := hide (And.intro (show k + 1 ≤ a.outs.length by omega) (show ((a.outs.length : Int) - ((k : Int) + 1)).toNat < ((a.outs.length : Int) - (k : Int)).toNat by omega))
          obtain ⟨ga, oa, hga⟩ := HA.out.o.base (by omega)
          subst hga
          obtain ⟨gb, ob, hgb⟩ := HB.out.o.base (by omega)
          subst hgb
          have RA : Hid (∀ W, Below W0.heap.size W0 W → W.rangeAt ga (oa + k * 2) a.outs[k].cells) := fun W h => (HA.out.below h).o.range k hlt
          have RB : Hid (∀ W, Below W0.heap.size W0 W → W.rangeAt gb (ob + k * 2) b.outs[k].cells) := fun W h => (HB.out.below h).o.range k hlb
          have HX : Hid (a.outs[k]? = some a.outs[k]) := List.getElem?_eq_getElem hlt
          have HY : Hid (b.outs[k]? = some b.outs[k]) := List.getElem?_eq_getElem hlb
          have JE := hide J.out.1
          have JB := hide J.out.2
          generalize a.outs[k] = x at *
          generalize b.outs[k] = y at *
          have EQ := hide (fun W => eqTu fo_ref x y W)
          clear hk hlt hlb h5 J
          go_upto_region 12 with fail
          refine wp_region_held_drew (S := fun W => Below W0.heap.size W0 W) (by kernel_rfl) JB.out.drew (fun hH => ?_)
          have D1 := hide JB.out.drew
          generalize wr.drew = V1 at *
          refine wpAnyH_take (i := 0) (v := (.pointer (some ⟨w.heap.size, 2, none⟩))) rfl (by kernel_rfl) (by kernel_rfl) (by kernel_rfl) (fun _ _ _ h => h) (.inl ⟨by rfl, fun W _ => by go_simp⟩) hH ?_
          change wpAnyH _ _ _ _ _ _ _ (Act.put _ (some 61) _) _
          simp only [Act.put, List.setIfInBounds_toArray, List.set_cons_zero, List.set_cons_succ]
          refine wpAnyH_take (i := 1) (v := (.slice (some ⟨ga, oa, none⟩) a.outs.length co)) rfl (by kernel_rfl) (by kernel_rfl) (by kernel_rfl) (fun _ _ _ h => h) (.inl ⟨by rfl, fun W hS => by have c4 := (CC.out W hS).1.2.2.1; go_simp⟩) hH ?_
          change wpAnyH _ _ _ _ _ _ _ (Act.put _ (some 62) _) _
          simp only [Act.put, List.setIfInBounds_toArray, List.set_cons_zero, List.set_cons_succ]
          refine wpAnyH_take (i := 2) (v := (.int .i64 (k : Int))) rfl (by kernel_rfl) (by kernel_rfl) (by kernel_rfl) (fun _ _ _ h => h) (yl_move (by rfl) _ (by rfl) _ (by rfl)) hH ?_
          change wpAnyH _ _ _ _ _ _ _ (Act.put _ (some 63) _) _
          simp only [Act.put, List.setIfInBounds_toArray, List.set_cons_zero, List.set_cons_succ]
          refine wpAnyH_take (i := 3) (v := (.pointer (some ⟨ga, oa + k * 2, none⟩))) rfl (by kernel_rfl) (by kernel_rfl) (by kernel_rfl) (fun _ _ _ h => h) (.inl ⟨by rfl, fun W _ => by go_simp⟩) hH ?_
          change wpAnyH _ _ _ _ _ _ _ (Act.put _ (some 64) _) _
          simp only [Act.put, List.setIfInBounds_toArray, List.set_cons_zero, List.set_cons_succ]
          refine wpAnyH_take (i := 4) (v := (.agg x.cells.toArray)) rfl (by kernel_rfl) (by kernel_rfl) (by kernel_rfl) (fun _ _ _ h => h) (yl_load (by rfl) _ (by rfl) _ x.cells.toArray (by rfl) (fun W hS => KOr.load x Try.underlying84 rfl (RA.out W hS))) hH ?_
          change wpAnyH _ _ _ _ _ _ _ (Act.put _ (some 65) _) _
          simp only [Act.put, List.setIfInBounds_toArray, List.set_cons_zero, List.set_cons_succ]
          refine wpAnyH_take (i := 5) (v := (.pointer (some ⟨w.heap.size + 1, 2, none⟩))) rfl (by kernel_rfl) (by kernel_rfl) (by kernel_rfl) (fun _ _ _ h => h) (.inl ⟨by rfl, fun W _ => by go_simp⟩) hH ?_
          change wpAnyH _ _ _ _ _ _ _ (Act.put _ (some 66) _) _
          simp only [Act.put, List.setIfInBounds_toArray, List.set_cons_zero, List.set_cons_succ]
          refine wpAnyH_take (i := 6) (v := (.slice (some ⟨gb, ob, none⟩) b.outs.length d0)) rfl (by kernel_rfl) (by kernel_rfl) (by kernel_rfl) (fun _ _ _ h => h) (.inl ⟨by rfl, fun W hS => by have c4 := (CC.out W hS).2.2.2.1; go_simp⟩) hH ?_
          change wpAnyH _ _ _ _ _ _ _ (Act.put _ (some 67) _) _
          simp only [Act.put, List.setIfInBounds_toArray, List.set_cons_zero, List.set_cons_succ]
          refine wpAnyH_take (i := 7) (v := (.int .i64 (k : Int))) rfl (by kernel_rfl) (by kernel_rfl) (by kernel_rfl) (fun _ _ _ h => h) (yl_move (by rfl) _ (by rfl) _ (by rfl)) hH ?_
          change wpAnyH _ _ _ _ _ _ _ (Act.put _ (some 68) _) _
          simp only [Act.put, List.setIfInBounds_toArray, List.set_cons_zero, List.set_cons_succ]
          refine wpAnyH_take (i := 8) (v := (.pointer (some ⟨gb, ob + k * 2, none⟩))) rfl (by kernel_rfl) (by kernel_rfl) (by kernel_rfl) (fun _ _ _ h => h) (.inl ⟨by rfl, fun W _ => by go_simp⟩) hH ?_
          change wpAnyH _ _ _ _ _ _ _ (Act.put _ (some 69) _) _
          simp only [Act.put, List.setIfInBounds_toArray, List.set_cons_zero, List.set_cons_succ]
          refine wpAnyH_take (i := 9) (v := (.agg y.cells.toArray)) rfl (by kernel_rfl) (by kernel_rfl) (by kernel_rfl) (fun _ _ _ h => h) (yl_load (by rfl) _ (by rfl) _ y.cells.toArray (by rfl) (fun W hS => KOr.load y Try.underlying84 rfl (RB.out W hS))) hH ?_
          change wpAnyH _ _ _ _ _ _ _ (Act.put _ (some 70) _) _
          simp only [Act.put, List.setIfInBounds_toArray, List.set_cons_zero, List.set_cons_succ]
          by_cases hxy : x = y
          · rw [decide_eq_true hxy] at EQ
            refine wpAnyH_take (i := 10) (v := (.bool false)) rfl (by kernel_rfl) (by kernel_rfl) (by kernel_rfl) (fun _ _ _ h => h) (yl_neqX (by rfl) 84 _ _ _ (by rfl) x.cells.toArray y.cells.toArray (by rfl) (by rfl) (by kernel_rfl) true EQ.out) hH ?_
            change wpAnyH _ _ _ _ _ _ _ (Act.put _ (some 71) _) _
            simp only [Act.put, List.setIfInBounds_toArray, List.set_cons_zero, List.set_cons_succ]
            refine wpAnyH_done (by kernel_rfl) ?_ _
            clear hH
            have HN : Hid (∀ j, j < k + 1 → a.outs[j]? = b.outs[j]?) := fun j hj => by
              rcases Nat.lt_or_ge j k with h | h
              · exact JE.out j h
              · rw [show j = k by omega, HX.out, HY.out, hxy]
            clear hxy
            go_wp2
            exact ⟨⟨k + 1, KK.out.1, by go_num, HN.out, D1.out⟩, by simpa [intOf] using KK.out.2⟩
          · rw [decide_eq_false hxy] at EQ
            refine wpAnyH_take (i := 10) (v := (.bool true)) rfl (by kernel_rfl) (by kernel_rfl) (by kernel_rfl) (fun _ _ _ h => h) (yl_neqX (by rfl) 84 _ _ _ (by rfl) x.cells.toArray y.cells.toArray (by rfl) (by rfl) (by kernel_rfl) false EQ.out) hH ?_
            change wpAnyH _ _ _ _ _ _ _ (Act.put _ (some 71) _) _
            simp only [Act.put, List.setIfInBounds_toArray, List.set_cons_zero, List.set_cons_succ]
            refine wpAnyH_done (by kernel_rfl) ?_ _
            clear hH
            have hr : res = false := by
              rw [HR.out]
              refine decide_eq_false (fun h => hxy ?_)
              have e := HX.out
              rw [h, HY.out] at e
              exact (Option.some.inj e).symm
            subst hr
            clear hxy
            go_wp2
            go_ret
            exact ⟨rfl, below_next B0.out D1.out⟩
        · have h1 : ¬ (k : Int) < (a.outs.length : Int) := by omega
          have EO : a.outs = b.outs := by
            apply List.ext_getElem?
            intro i
            rcases Nat.lt_or_ge i k with h | h
            · exact J.out.1 i h
            · rw [List.getElem?_eq_none (by omega), List.getElem?_eq_none (by have := H14.out.2; omega)]
          have hr : res = true := by
            rw [HR.out]
            refine decide_eq_true ?_
            obtain ⟨v1, i1, o1, t1⟩ := a
            obtain ⟨v2, i2, o2, t2⟩ := b
            have q1 := H14.out.1.1
            have q2 := H14.out.1.2
            have q3 := EI.out
            simp only at q1 q2 q3 EO
            rw [q1, q2, q3, EO]
          subst hr
          have JB := hide J.out.2
          clear hk hlt J EO
          go_wp2
          go_ret
          exact ⟨rfl, below_next B0.out JB.out⟩
end
end Go.Proofs.Ytfldpejdpinppaa
