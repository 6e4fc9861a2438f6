/- Headers that stand on one another: Linked, of the program and of the document: their contracts. wide.Sum; the law WideLists: its walk. -/
import Derived.Test.YtofddbjnncgmlaaGreatDoorX39
import Derived.Test.YtofddbjnncgmlaaGreatDoorX34
import Derived.Test.YtofddbjnncgmlaaGreatDoorX15
namespace Go.Proofs.YtofddbjnncgmlaaGreatDoor
open Go.RowKit
open Go.Deep
open Go.Maps
set_option linter.unusedVariables false
set_option linter.unusedSimpArgs false
/-- Headers as a list, of the program's and of the document's. -/
def KHe : Ek Hd := ⟨59, 48, 68, 80, Hd.cells, by decide, by decide, Tryz.underlying59, by kernel_rfl, Hd.len, Hd.one⟩
def KHr2 : Ek Hd := ⟨61, 66, 68, 80, Hd.cells, by decide, by decide, Tryz.underlying61, by kernel_rfl, Hd.len, Hd.one⟩
instance : Inhabited Hd := ⟨zHd⟩
/-- The first place, from i on, at which a header does not stand on the one ahead of it; -1. -/
def lkF (L : List Hd) : Nat → Nat → Int
  | 0, _ => -1
  | f + 1, i => if ((L.getD i zHd).prev == (L.getD (i - 1) zHd).id) = true then lkF L f (i + 1) else (i : Int)
def lkN (L : List Hd) : Int := lkF L (L.length - 1) 1
theorem ldHd14 {W : World} {g off : Nat} {y : Hd} (hr : W.rangeAt g off y.cells) : (Instr.loadAt 48 (.pointer (some ⟨g, off, none⟩))).run Tryz.prog W = .ok (.agg y.cells.toArray) W :=
  run_loadAt_mid W g off 48 _ _ hr Tryz.underlying48 rfl (by rw [y.len]; kernel_rfl)
theorem ldHr14 {W : World} {g off : Nat} {y : Hd} (hr : W.rangeAt g off y.cells) : (Instr.loadAt 66 (.pointer (some ⟨g, off, none⟩))).run Tryz.prog W = .ok (.agg y.cells.toArray) W :=
  run_loadAt_mid W g off 66 _ _ hr Tryz.underlying66 rfl (by rw [y.len]; kernel_rfl)
theorem ldH32_14 {W : World} {g off : Nat} {y : List UInt8} (hy : y.length = 32) (hr : W.rangeAt g off (cellsL y)) : (Instr.loadAt 45 (.pointer (some ⟨g, off, none⟩))).run Tryz.prog W = .ok (.agg (hc y)) W :=
  run_loadAt_mid W g off 45 _ _ hr Tryz.underlying45 rfl (by rw [cellsL_len, hy]; kernel_rfl)
section
variable {S : World → Prop} {ops : Array Oper} {o : Oper} {a : Act}
theorem yl_neq14 (hw : Region.wanted o (yielded ops a.tmps) = true) (t : TypeId) (x y : Operand) (t2 : TypeId) (ho : o.op = .binOp .neq t x y t2) (c d : Array Value) (hx : a.eval x = .agg c) (hy : a.eval y = .agg d) (hg : Tryz.prog.eqGuardType Tryz.prog.depth t = false)
    (v : Bool) (hr : ∀ W, (Op.equalIn 10000 t (.agg c) (.agg d)).run Tryz.prog W = .ok v W) : YieldsIf Tryz.prog ops S o (.bool (!v)) a :=
  .inl ⟨hw, fun W _ => by
    unfold execOp
    simp only [ho, hx, hy, Sem.run_bind, run_eqGuard_agg (P := Tryz.prog) W .neq t x y c d hg, run_neq_struct, hr W, Result.andThen_ok, Sem.run_pure]⟩
end
theorem eqH32_14 (x y : List UInt8) (hx : x.length = 32) (hy : y.length = 32) (W : World) : (Op.equalIn 10000 45 (.agg (hc x)) (.agg (hc y))).run Tryz.prog W = .ok (x == y) W :=
  eqC_bytes x y 32 hx hy 45 Tryz.underlying45 9998 W
section
set_option maxRecDepth 10000
set_option maxHeartbeats 4000000
theorem linked_any (v : Value) (L : List Hd) (hL : L.length ≤ 1000000) (w : World) (hv : LX KHe w v L) (hK : Kg w) : Calls Tryz.prog 26 #[v] w fun e w' => e = .returned (.int .i64 (lkN L)) ∧ Below w.heap.size w w' := by
  obtain ⟨ao, cap, rfl⟩ := hv.form
  have HV := hide hv
  have HLe := hide hL
  have KS : Hid (∀ W, Below w.heap.size w W → Kg W) := fun W b => hK.next b
  have HI : Hid (∀ (x : Hd) W, Kg W → Calls Tryz.prog 20 #[.agg x.cells.toArray] W fun e w' => e = .returned (.agg (hc x.id)) ∧ Below W.heap.size W w') := fun x W q => hid_any x W q
  have EG : Hid (Tryz.prog.eqGuardType Tryz.prog.depth 46 = false) := by show _ = _; kernel_rfl
  clear hv hL hK
  go_enter Tryz.func26, Tryz.ntmps26
  go_upto_region 1 with fail
  go_wp2
  go_loopw [3] (fun i wr => ∃ k : Nat, 1 ≤ k ∧ (k ≤ L.length ∨ k = 1) ∧ i = .int .i64 (k : Int) ∧ Hid (lkN L = lkF L (L.length - k) k ∧ Below w.heap.size w wr)) (fun i _ => (L.length + 1 - intOf i).toNat)
  case atStart => exact ⟨1, Nat.le_refl _, .inr rfl, rfl, rfl, Below.refl _ _⟩
  case round =>
    obtain ⟨k, h1, hk, rfl, J⟩ := hrel
    by_cases hlt : k < L.length
    · obtain ⟨g, off, rfl⟩ := HV.out.base (by omega)
      have r1 : w.rangeAt g (off + k * 68) L[k].cells := HV.out.range k hlt
      have hlt' : k - 1 < L.length := by omega
      have r0 : w.rangeAt g (off + (k - 1) * 68) L[k - 1].cells := HV.out.range (k - 1) hlt'
      have gl := HV.out.lt (by omega)
      have d1 : L.getD k zHd = L[k] := by simp [List.getD, hlt]
      have d0 : L.getD (k - 1) zHd = L[k - 1] := by simp [List.getD, hlt']
      have step : Hid (lkN L = if (L[k].prev == L[k - 1].id) = true then lkF L (L.length - (k + 1)) (k + 1) else (k : Int)) := by
        show _ = _
        rw [J.out.1, show L.length - k = (L.length - (k + 1)) + 1 by omega, lkF, d1, d0]
      have BJ := hide J.out.2
      have RR : Hid (∀ W, Below w.heap.size w W → W.rangeAt g (off + k * 68 + 1) (cellsL L[k].prev) ∧ W.rangeAt g (off + (k - 1) * 68) L[k - 1].cells) := fun W b => ⟨L[k].prevR (rangeX_below r1 b gl), rangeX_below r0 b gl⟩
      have HIk := hide (fun W q => HI.out L[k - 1] W q)
      have EQ : Hid (∀ W, (Op.equalIn 10000 46 (.agg (hc L[k].prev)) (.agg (hc L[k - 1].id))).run Tryz.prog W = .ok (L[k].prev == L[k - 1].id) W) := fun W => eqH14 _ _ L[k].hp L[k - 1].id_len W
      have PH := hide L[k].hp
      have x1 : (k : Int) < (L.length : Int) := by omega
      have x2 : (0 : Int) ≤ (k : Int) := by omega
      have x3 : IntKind.i64.wrap ((k : Int) - 1) = ((k - 1 : Nat) : Int) := by rw [show (k : Int) - 1 = ((k - 1 : Nat) : Int) by omega]; exact wrapI _ (by omega) (by have := HLe.out; omega)
      have x4 : ((k - 1 : Nat) : Int) < (L.length : Int) := by omega
      have x5 : (0 : Int) ≤ ((k - 1 : Nat) : Int) := by omega
      have x6 : IntKind.i64.wrap ((k : Int) + 1) = (k : Int) + 1 := wrapI _ (by omega) (by have := HLe.out; omega)
      have MS := hide (And.intro hlt h1)
      clear d1 d0 r1 r0 gl J hk h1
      generalize hX : L[k] = X at *
      generalize hY : L[k - 1] = Y at *
      generalize (X.prev == Y.id) = Bq at *
      clear hX hY hlt' hlt
      generalize k - 1 = km at *
      go_upto_region 4 with fail
      have DV := hide (Below.refl wr.heap.size wr).drew
      have DB := hide (below_next BJ.out DV.out)
      refine wp_region_held_drew (S := fun W => Below w.heap.size w W) (by kernel_rfl) DB.out (fun hH => ?_)
      generalize wr.drew = V1 at *
      refine wpAnyH_take (i := 0) (v := (.slice (some ⟨g, off, none⟩) L.length cap)) rfl (by kernel_rfl) (by kernel_rfl) (by kernel_rfl) (fun _ _ _ h => h) (yl_move (by rfl) _ (by rfl) _ (by rfl)) hH ?_
      change wpAnyH _ _ _ _ _ _ _ (Act.put _ (some 10) _) _
      simp only [Act.put, List.setIfInBounds_toArray, List.set_cons_zero, List.set_cons_succ]
      refine wpAnyH_take (i := 1) (v := (.int .i64 (k : Int))) rfl (by kernel_rfl) (by kernel_rfl) (by kernel_rfl) (fun _ _ _ h => h) (yl_move (by rfl) _ (by rfl) _ (by rfl)) hH ?_
      change wpAnyH _ _ _ _ _ _ _ (Act.put _ (some 11) _) _
      simp only [Act.put, List.setIfInBounds_toArray, List.set_cons_zero, List.set_cons_succ]
      refine wpAnyH_take (i := 2) (v := (.pointer (some ⟨g, off + k * 68, none⟩))) rfl (by kernel_rfl) (by kernel_rfl) (by kernel_rfl) (fun _ _ _ h => h) (.inl ⟨by rfl, fun W _ => by go_simp⟩) hH ?_
      change wpAnyH _ _ _ _ _ _ _ (Act.put _ (some 12) _) _
      simp only [Act.put, List.setIfInBounds_toArray, List.set_cons_zero, List.set_cons_succ]
      refine wpAnyH_take (i := 3) (v := (.pointer (some ⟨g, off + k * 68 + 1, none⟩))) rfl (by kernel_rfl) (by kernel_rfl) (by kernel_rfl) (fun _ _ _ h => h) (.inl ⟨by rfl, fun W _ => by go_simp⟩) hH ?_
      change wpAnyH _ _ _ _ _ _ _ (Act.put _ (some 13) _) _
      simp only [Act.put, List.setIfInBounds_toArray, List.set_cons_zero, List.set_cons_succ]
      refine wpAnyH_take (i := 4) (v := (.agg (hc X.prev))) rfl (by kernel_rfl) (by kernel_rfl) (by kernel_rfl) (fun _ _ _ h => h) (yl_load (by rfl) _ (by rfl) _ (hc X.prev) (by rfl) (fun W hS => ld25_14 PH.out (RR.out W hS).1)) hH ?_
      change wpAnyH _ _ _ _ _ _ _ (Act.put _ (some 14) _) _
      simp only [Act.put, List.setIfInBounds_toArray, List.set_cons_zero, List.set_cons_succ]
      refine wpAnyH_take (i := 5) (v := (.slice (some ⟨g, off, none⟩) L.length cap)) rfl (by kernel_rfl) (by kernel_rfl) (by kernel_rfl) (fun _ _ _ h => h) (yl_move (by rfl) _ (by rfl) _ (by rfl)) hH ?_
      change wpAnyH _ _ _ _ _ _ _ (Act.put _ (some 15) _) _
      simp only [Act.put, List.setIfInBounds_toArray, List.set_cons_zero, List.set_cons_succ]
      refine wpAnyH_take (i := 6) (v := (.int .i64 (k : Int))) rfl (by kernel_rfl) (by kernel_rfl) (by kernel_rfl) (fun _ _ _ h => h) (yl_move (by rfl) _ (by rfl) _ (by rfl)) hH ?_
      change wpAnyH _ _ _ _ _ _ _ (Act.put _ (some 16) _) _
      simp only [Act.put, List.setIfInBounds_toArray, List.set_cons_zero, List.set_cons_succ]
      refine wpAnyH_take (i := 7) (v := (.int .i64 (km : Int))) rfl (by kernel_rfl) (by kernel_rfl) (by kernel_rfl) (fun _ _ _ h => h) (.inl ⟨by rfl, fun W _ => by go_simp⟩) hH ?_
      change wpAnyH _ _ _ _ _ _ _ (Act.put _ (some 17) _) _
      simp only [Act.put, List.setIfInBounds_toArray, List.set_cons_zero, List.set_cons_succ]
      refine wpAnyH_take (i := 8) (v := (.pointer (some ⟨g, off + km * 68, none⟩))) rfl (by kernel_rfl) (by kernel_rfl) (by kernel_rfl) (fun _ _ _ h => h) (.inl ⟨by rfl, fun W _ => by go_simp⟩) hH ?_
      change wpAnyH _ _ _ _ _ _ _ (Act.put _ (some 18) _) _
      simp only [Act.put, List.setIfInBounds_toArray, List.set_cons_zero, List.set_cons_succ]
      refine wpAnyH_take (i := 9) (v := (.agg Y.cells.toArray)) rfl (by kernel_rfl) (by kernel_rfl) (by kernel_rfl) (fun _ _ _ h => h) (yl_load (by rfl) _ (by rfl) _ Y.cells.toArray (by rfl) (fun W hS => ldHd14 (RR.out W hS).2)) hH ?_
      change wpAnyH _ _ _ _ _ _ _ (Act.put _ (some 19) _) _
      simp only [Act.put, List.setIfInBounds_toArray, List.set_cons_zero, List.set_cons_succ]
      refine wpAnyH_ready (rs := [10]) (by kernel_rfl) (by simp) (AllReadyH.cons rfl (fun K1 hK1 => ?_) AllReadyH.nil)
      go_simp
      refine (HIk.out V1 (KS.out _ DB.out)).mono ?_
      rintro r V2 ⟨rfl, be⟩
      have DC := hide (below_next DB.out be)
      clear be
      refine hK1.out _ _ DC.out (fun hH => ?_)
      clear hK1
      refine wpAnyH_take (i := 11) (v := (.bool (!Bq))) rfl (by kernel_rfl) (by kernel_rfl) (by kernel_rfl) (fun _ _ _ h => h) (yl_neq14 (by rfl) _ _ _ _ (by rfl) (hc X.prev) (hc Y.id) (by rfl) (by rfl) EG.out Bq EQ.out) hH ?_
      change wpAnyH _ _ _ _ _ _ _ (Act.put _ (some 21) _) _
      simp only [Act.put, List.setIfInBounds_toArray, List.set_cons_zero, List.set_cons_succ]
      refine wpAnyH_done (by kernel_rfl) ?_ _
      clear hH
      cases Bq
      · have e9 : Hid (lkN L = (k : Int)) := by have := step.out; rwa [if_neg (by decide)] at this
        clear step
        simp only [Bool.not_false]
        go_wp2
        go_ret
        exact ⟨by rw [e9.out]; rfl, DC.out⟩
      · have e9 : Hid (lkN L = lkF L (L.length - (k + 1)) (k + 1)) := by have := step.out; rwa [if_pos rfl] at this
        clear step
        simp only [Bool.not_true]
        go_wp2
        exact ⟨⟨k + 1, by have := MS.out.2; omega, .inl MS.out.1, by go_num, e9.out, DC.out⟩, by have := MS.out; simp [intOf]; omega⟩
    · have e9 : Hid (lkN L = -1) := by
        show _ = _
        rw [J.out.1, show L.length - k = 0 by omega]
        rfl
      have x1 : ¬ (k : Int) < (L.length : Int) := by omega
      have BJ := hide J.out.2
      clear J hk hlt h1
      go_wp2
      go_ret
      exact ⟨by rw [e9.out]; rfl, BJ.out⟩
theorem rlinked_any (v : Value) (L : List Hd) (hL : L.length ≤ 1000000) (w : World) (hv : LX KHr2 w v L) (hK : Kg w) : Calls Tryz.prog 27 #[v] w fun e w' => e = .returned (.int .i64 (lkN L)) ∧ Below w.heap.size w w' := by
  obtain ⟨ao, cap, rfl⟩ := hv.form
  have HV := hide hv
  have HLe := hide hL
  have KS : Hid (∀ W, Below w.heap.size w W → Kg W) := fun W b => hK.next b
  have HI : Hid (∀ (x : Hd) W, Kg W → Calls Tryz.prog 56 #[.agg x.cells.toArray] W fun e w' => e = .returned (.agg (hc x.id)) ∧ Below W.heap.size W w') := fun x W q => rhid_any x W
  have EG : Hid (Tryz.prog.eqGuardType Tryz.prog.depth 45 = false) := by show _ = _; kernel_rfl
  clear hv hL hK
  go_enter Tryz.func27, Tryz.ntmps27
  go_upto_region 1 with fail
  go_wp2
  go_loopw [3] (fun i wr => ∃ k : Nat, 1 ≤ k ∧ (k ≤ L.length ∨ k = 1) ∧ i = .int .i64 (k : Int) ∧ Hid (lkN L = lkF L (L.length - k) k ∧ Below w.heap.size w wr)) (fun i _ => (L.length + 1 - intOf i).toNat)
  case atStart => exact ⟨1, Nat.le_refl _, .inr rfl, rfl, rfl, Below.refl _ _⟩
  case round =>
    obtain ⟨k, h1, hk, rfl, J⟩ := hrel
    by_cases hlt : k < L.length
    · obtain ⟨g, off, rfl⟩ := HV.out.base (by omega)
      have r1 : w.rangeAt g (off + k * 68) L[k].cells := HV.out.range k hlt
      have hlt' : k - 1 < L.length := by omega
      have r0 : w.rangeAt g (off + (k - 1) * 68) L[k - 1].cells := HV.out.range (k - 1) hlt'
      have gl := HV.out.lt (by omega)
      have d1 : L.getD k zHd = L[k] := by simp [List.getD, hlt]
      have d0 : L.getD (k - 1) zHd = L[k - 1] := by simp [List.getD, hlt']
      have step : Hid (lkN L = if (L[k].prev == L[k - 1].id) = true then lkF L (L.length - (k + 1)) (k + 1) else (k : Int)) := by
        show _ = _
        rw [J.out.1, show L.length - k = (L.length - (k + 1)) + 1 by omega, lkF, d1, d0]
      have BJ := hide J.out.2
      have RR : Hid (∀ W, Below w.heap.size w W → W.rangeAt g (off + k * 68 + 1) (cellsL L[k].prev) ∧ W.rangeAt g (off + (k - 1) * 68) L[k - 1].cells) := fun W b => ⟨L[k].prevR (rangeX_below r1 b gl), rangeX_below r0 b gl⟩
      have HIk := hide (fun W q => HI.out L[k - 1] W q)
      have EQ : Hid (∀ W, (Op.equalIn 10000 45 (.agg (hc L[k].prev)) (.agg (hc L[k - 1].id))).run Tryz.prog W = .ok (L[k].prev == L[k - 1].id) W) := fun W => eqH32_14 _ _ L[k].hp L[k - 1].id_len W
      have PH := hide L[k].hp
      have x1 : (k : Int) < (L.length : Int) := by omega
      have x2 : (0 : Int) ≤ (k : Int) := by omega
      have x3 : IntKind.i64.wrap ((k : Int) - 1) = ((k - 1 : Nat) : Int) := by rw [show (k : Int) - 1 = ((k - 1 : Nat) : Int) by omega]; exact wrapI _ (by omega) (by have := HLe.out; omega)
      have x4 : ((k - 1 : Nat) : Int) < (L.length : Int) := by omega
      have x5 : (0 : Int) ≤ ((k - 1 : Nat) : Int) := by omega
      have x6 : IntKind.i64.wrap ((k : Int) + 1) = (k : Int) + 1 := wrapI _ (by omega) (by have := HLe.out; omega)
      have MS := hide (And.intro hlt h1)
      clear d1 d0 r1 r0 gl J hk h1
      generalize hX : L[k] = X at *
      generalize hY : L[k - 1] = Y at *
      generalize (X.prev == Y.id) = Bq at *
      clear hX hY hlt' hlt
      generalize k - 1 = km at *
      go_upto_region 4 with fail
      have DV := hide (Below.refl wr.heap.size wr).drew
      have DB := hide (below_next BJ.out DV.out)
      refine wp_region_held_drew (S := fun W => Below w.heap.size w W) (by kernel_rfl) DB.out (fun hH => ?_)
      generalize wr.drew = V1 at *
      refine wpAnyH_take (i := 0) (v := (.slice (some ⟨g, off, none⟩) L.length cap)) rfl (by kernel_rfl) (by kernel_rfl) (by kernel_rfl) (fun _ _ _ h => h) (yl_move (by rfl) _ (by rfl) _ (by rfl)) hH ?_
      change wpAnyH _ _ _ _ _ _ _ (Act.put _ (some 10) _) _
      simp only [Act.put, List.setIfInBounds_toArray, List.set_cons_zero, List.set_cons_succ]
      refine wpAnyH_take (i := 1) (v := (.int .i64 (k : Int))) rfl (by kernel_rfl) (by kernel_rfl) (by kernel_rfl) (fun _ _ _ h => h) (yl_move (by rfl) _ (by rfl) _ (by rfl)) hH ?_
      change wpAnyH _ _ _ _ _ _ _ (Act.put _ (some 11) _) _
      simp only [Act.put, List.setIfInBounds_toArray, List.set_cons_zero, List.set_cons_succ]
      refine wpAnyH_take (i := 2) (v := (.pointer (some ⟨g, off + k * 68, none⟩))) rfl (by kernel_rfl) (by kernel_rfl) (by kernel_rfl) (fun _ _ _ h => h) (.inl ⟨by rfl, fun W _ => by go_simp⟩) hH ?_
      change wpAnyH _ _ _ _ _ _ _ (Act.put _ (some 12) _) _
      simp only [Act.put, List.setIfInBounds_toArray, List.set_cons_zero, List.set_cons_succ]
      refine wpAnyH_take (i := 3) (v := (.pointer (some ⟨g, off + k * 68 + 1, none⟩))) rfl (by kernel_rfl) (by kernel_rfl) (by kernel_rfl) (fun _ _ _ h => h) (.inl ⟨by rfl, fun W _ => by go_simp⟩) hH ?_
      change wpAnyH _ _ _ _ _ _ _ (Act.put _ (some 13) _) _
      simp only [Act.put, List.setIfInBounds_toArray, List.set_cons_zero, List.set_cons_succ]
      refine wpAnyH_take (i := 4) (v := (.agg (hc X.prev))) rfl (by kernel_rfl) (by kernel_rfl) (by kernel_rfl) (fun _ _ _ h => h) (yl_load (by rfl) _ (by rfl) _ (hc X.prev) (by rfl) (fun W hS => ldH32_14 PH.out (RR.out W hS).1)) hH ?_
      change wpAnyH _ _ _ _ _ _ _ (Act.put _ (some 14) _) _
      simp only [Act.put, List.setIfInBounds_toArray, List.set_cons_zero, List.set_cons_succ]
      refine wpAnyH_take (i := 5) (v := (.slice (some ⟨g, off, none⟩) L.length cap)) rfl (by kernel_rfl) (by kernel_rfl) (by kernel_rfl) (fun _ _ _ h => h) (yl_move (by rfl) _ (by rfl) _ (by rfl)) hH ?_
      change wpAnyH _ _ _ _ _ _ _ (Act.put _ (some 15) _) _
      simp only [Act.put, List.setIfInBounds_toArray, List.set_cons_zero, List.set_cons_succ]
      refine wpAnyH_take (i := 6) (v := (.int .i64 (k : Int))) rfl (by kernel_rfl) (by kernel_rfl) (by kernel_rfl) (fun _ _ _ h => h) (yl_move (by rfl) _ (by rfl) _ (by rfl)) hH ?_
      change wpAnyH _ _ _ _ _ _ _ (Act.put _ (some 16) _) _
      simp only [Act.put, List.setIfInBounds_toArray, List.set_cons_zero, List.set_cons_succ]
      refine wpAnyH_take (i := 7) (v := (.int .i64 (km : Int))) rfl (by kernel_rfl) (by kernel_rfl) (by kernel_rfl) (fun _ _ _ h => h) (.inl ⟨by rfl, fun W _ => by go_simp⟩) hH ?_
      change wpAnyH _ _ _ _ _ _ _ (Act.put _ (some 17) _) _
      simp only [Act.put, List.setIfInBounds_toArray, List.set_cons_zero, List.set_cons_succ]
      refine wpAnyH_take (i := 8) (v := (.pointer (some ⟨g, off + km * 68, none⟩))) rfl (by kernel_rfl) (by kernel_rfl) (by kernel_rfl) (fun _ _ _ h => h) (.inl ⟨by rfl, fun W _ => by go_simp⟩) hH ?_
      change wpAnyH _ _ _ _ _ _ _ (Act.put _ (some 18) _) _
      simp only [Act.put, List.setIfInBounds_toArray, List.set_cons_zero, List.set_cons_succ]
      refine wpAnyH_take (i := 9) (v := (.agg Y.cells.toArray)) rfl (by kernel_rfl) (by kernel_rfl) (by kernel_rfl) (fun _ _ _ h => h) (yl_load (by rfl) _ (by rfl) _ Y.cells.toArray (by rfl) (fun W hS => ldHr14 (RR.out W hS).2)) hH ?_
      change wpAnyH _ _ _ _ _ _ _ (Act.put _ (some 19) _) _
      simp only [Act.put, List.setIfInBounds_toArray, List.set_cons_zero, List.set_cons_succ]
      refine wpAnyH_ready (rs := [10]) (by kernel_rfl) (by simp) (AllReadyH.cons rfl (fun K1 hK1 => ?_) AllReadyH.nil)
      go_simp
      refine (HIk.out V1 (KS.out _ DB.out)).mono ?_
      rintro r V2 ⟨rfl, be⟩
      have DC := hide (below_next DB.out be)
      clear be
      refine hK1.out _ _ DC.out (fun hH => ?_)
      clear hK1
      refine wpAnyH_take (i := 11) (v := (.bool (!Bq))) rfl (by kernel_rfl) (by kernel_rfl) (by kernel_rfl) (fun _ _ _ h => h) (yl_neq14 (by rfl) _ _ _ _ (by rfl) (hc X.prev) (hc Y.id) (by rfl) (by rfl) EG.out Bq EQ.out) hH ?_
      change wpAnyH _ _ _ _ _ _ _ (Act.put _ (some 21) _) _
      simp only [Act.put, List.setIfInBounds_toArray, List.set_cons_zero, List.set_cons_succ]
      refine wpAnyH_done (by kernel_rfl) ?_ _
      clear hH
      cases Bq
      · have e9 : Hid (lkN L = (k : Int)) := by have := step.out; rwa [if_neg (by decide)] at this
        clear step
        simp only [Bool.not_false]
        go_wp2
        go_ret
        exact ⟨by rw [e9.out]; rfl, DC.out⟩
      · have e9 : Hid (lkN L = lkF L (L.length - (k + 1)) (k + 1)) := by have := step.out; rwa [if_pos rfl] at this
        clear step
        simp only [Bool.not_true]
        go_wp2
        exact ⟨⟨k + 1, by have := MS.out.2; omega, .inl MS.out.1, by go_num, e9.out, DC.out⟩, by have := MS.out; simp [intOf]; omega⟩
    · have e9 : Hid (lkN L = -1) := by
        show _ = _
        rw [J.out.1, show L.length - k = 0 by omega]
        rfl
      have x1 : ¬ (k : Int) < (L.length : Int) := by omega
      have BJ := hide J.out.2
      clear J hk hlt h1
      go_wp2
      go_ret
      exact ⟨by rw [e9.out]; rfl, BJ.out⟩
end
end Go.Proofs.YtofddbjnncgmlaaGreatDoor
namespace Go.Proofs.YtofddbjnncgmlaaGreatDoor
open Go.RowKit
open Go.Deep
/-- The sum of the first k numbers, and whether one of the sums was too great. -/
def ss (id : Nat → Nat) : Nat → Nat
  | 0 => 0
  | k + 1 => (ss id k + id k) % M
def pp (id : Nat → Nat) : Nat → Bool
  | 0 => false
  | k + 1 => pp id k || decide (M ≤ ss id k + id k)
theorem ss_lt (id : Nat → Nat) : ∀ k, ss id k < M
  | 0 => M_pos
  | _ + 1 => Nat.mod_lt _ M_pos
theorem ld_midW {W : World} {g off n : Nat} (hr : W.rangeAt g off (wn n).toList) : (Instr.loadAt 51 (.pointer (some ⟨g, off, none⟩))).run Tryz.prog W = .ok (.agg (wn n)) W :=
  run_loadAt_mid W g off 51 _ _ hr Tryz.underlying51 rfl (by rw [AW.info]; rfl)
/-- The load of a number out of a list of numbers. -/
theorem wpList_loadMW {w : World} {ops : Array Oper} {rest : List Oper} {o : Oper} {a : Act} {Q : Exit → Act → World → Prop} (hgd : o.guard = none) (x : Operand) (ho : o.op = .load 51 x) (g off : Nat) (hx : a.eval x = .pointer (some ⟨g, off, none⟩)) (n : Nat) (hr : w.rangeAt g off (wn n).toList)
    (h : wpList Tryz.prog ops Q rest (a.put o.dst (.agg (wn n))) w) : wpList Tryz.prog ops Q (o :: rest) a w := by
  refine wpList_plain hgd fun K hK => ?_
  unfold Oper.wp execOp
  simp only [ho, hx, Sem.run_bind, ld_midW hr, Result.andThen_ok, Sem.run_pure]
  exact hK _ _ h
/-- Two rows of one number each. -/
structure Bw (w W : World) (g1 g2 : Nat) (t1 t2 : TypeId) (m n : Nat) : Prop where
  a : W.heap[g1]? = some (.cells (wn m) t1 (0, 0))
  b : W.heap[g2]? = some (.cells (wn n) t2 (0, 0))
  bel : Below w.heap.size w W
section
variable {w W W' : World} {g1 g2 : Nat} {t1 t2 : TypeId} {m n : Nat}
theorem Bw.next (j : Bw w W g1 g2 t1 t2 m n) (h : Below W.heap.size W W') : Bw w W' g1 g2 t1 t2 m n :=
  ⟨(h.block _ (lt_heap j.a)).trans j.a, (h.block _ (lt_heap j.b)).trans j.b, below_next j.bel h⟩
theorem Bw.alloc (j : Bw w W g1 g2 t1 t2 m n) (o : Obj) : Bw w (W.alloc o) g1 g2 t1 t2 m n := j.next ((Below.refl _ _).alloc (Nat.le_refl _) _)
theorem Bw.put (j : Bw w W g1 g2 t1 t2 m n) (hne : g1 ≠ g2) (h2 : w.heap.size ≤ g2) (k : Nat) : Bw w (W.setRow g2 (wn k)) g1 g2 t1 t2 m k :=
  ⟨(setRow_other _ _ _ _ hne).trans j.a, setRow_heap _ _ _ _ _ _ j.b, below_setRow j.bel h2 _⟩
end
section
set_option maxRecDepth 10000
set_option maxHeartbeats 2000000
theorem sumW_any (ao : Option Addr) (n cap : Nat) (id : Nat → Nat) (w : World) (hn : n ≤ 9223372036854775807) (hp : Wds w ao n id) : Calls Tryz.prog 86 #[.slice ao n cap] w fun e w' => e = .returned (.tuple #[.agg (wn (ss id n)), .bool (pp id n)]) ∧ Below w.heap.size w w' := by
  have HP := hide hp
  have HN := hide hn
  have J0 : Hid (Bw w ((w.alloc (.cells (wn 0) 51)).alloc (.cells (wn 0) 51)) w.heap.size (w.heap.size + 1) 51 51 0 0) := ⟨(blk2x w _ _).1, (blk2x w _ _).2, below2x w _ _⟩
  clear hp hn
  go_enter Tryz.func86, Tryz.ntmps86
  go_wp2_with (first | refine wpList_allocA AW rfl rfl ?_)
  generalize (w.alloc (.cells (wn 0) 51)).alloc (.cells (wn 0) 51) = W0 at *
  go_loopw [5, 7, 8, 9, 12] (fun p _ _ _ c wr => ∃ k : Nat, k ≤ n ∧ p = .bool (pp id k) ∧ c = .int .i64 k ∧ Hid (Bw w wr w.heap.size (w.heap.size + 1) 51 51 0 (ss id k))) (fun _ _ _ _ c _ => (n - intOf c).toNat)
  case atStart => exact ⟨0, by omega, rfl, rfl, J0⟩
  case round =>
    clear J0
    obtain ⟨k, hk, rfl, rfl, J⟩ := hrel
    by_cases hlt : k < n
    · obtain ⟨hl, g, off, rfl, hg, hr⟩ := HP.out k hlt
      have k0' : (0 : Int) ≤ k := by omega
      have k1' : (k : Int) < n := by omega
      have hw : IntKind.i64.wrap ((k : Int) + 1) = k + 1 := wrapI _ (by omega) (by have := HN.out; omega)
      have hR := hide (range_below hr J.out.bel hg)
      have HA := hide fun W => wadd_any (ss id k) (id k) (ss_lt id k) hl W
      rw [← wn_mod (ss id k + id k)] at HA
      have HS : Hid (ss id (k + 1) = (ss id k + id k) % M ∧ pp id (k + 1) = (pp id k || decide (M ≤ ss id k + id k))) := ⟨rfl, rfl⟩
      clear hr hl
      generalize (ss id k + id k) % M = s1 at *
      generalize decide (M ≤ ss id k + id k) = ov at *
      generalize id k = L at *
      generalize ss id k = s0 at *
      generalize pp id k = p at *
      go_upto_region 6 with (first | refine wpList_loadMW rfl _ rfl g (off + k * 4) rfl L hR.out ?_ | refine wpList_allocA AW rfl rfl ?_ | refine wpList_store_newA AW rfl _ _ rfl _ rfl (wn L) (wn_size _) (wn_one _) rfl rfl ?_)
      have hI := hide (heap_alloc_last wr (.cells (wn L) 51))
      have J1 := hide (J.out.alloc (.cells (wn L) 51))
      generalize wr.alloc (.cells (wn L) 51) = W1 at *
      generalize wr.heap.size = gI at *
      clear J hR
      have b1 := hide J1.out.b
      go_upto_region 7 with (first | refine wpList_loadA AW rfl _ rfl _ rfl (wn s0) (wn_size _) 51 b1.out ?_ | refine wpList_loadA AW rfl _ rfl _ rfl (wn L) (wn_size _) 51 hI.out ?_ | (go_at_call 177; refine (HA.out _).mono ?_; rintro e w2 ⟨rfl, b2⟩; have J2 := hide (J1.out.next b2); clear b2) | refine wpList_allocA AW rfl rfl ?_ | refine wpList_store_newA AW rfl _ _ rfl _ rfl (wn s1) (wn_size _) (wn_one _) rfl rfl ?_)
      have hI2 := hide (heap_alloc_last w2 (.cells (wn s1) 51))
      have J3 := hide (J2.out.alloc (.cells (wn s1) 51))
      generalize w2.alloc (.cells (wn s1) 51) = W3 at *
      generalize w2.heap.size = gJ at *
      clear J1 J2 hI b1 HA
      have b3 := hide J3.out.b
      cases p
      all_goals
        go_wp2_with (first | refine wpList_loadA AW rfl _ rfl _ rfl (wn s1) (wn_size _) 51 hI2.out ?_ | refine wpList_storeA AW rfl _ _ rfl _ (wn s1) (wn_size _) (wn_one _) rfl rfl (wn s0) (wn_size _) 51 b3.out ?_)
        exact ⟨⟨k + 1, by omega, by rw [HS.out.2]; simp, by go_num, hide (by rw [HS.out.1]; exact J3.out.put (by omega) (by omega) s1)⟩, by simp [intOf]; omega⟩
    · have hke : k = n := by omega
      subst hke
      have b1 := hide J.out.b
      have a1 := hide J.out.a
      go_wp2_with (first | refine wpList_loadA AW rfl _ rfl _ rfl (wn (ss id k)) (wn_size _) 51 b1.out ?_ | refine wpList_storeA AW rfl _ _ rfl _ (wn (ss id k)) (wn_size _) (wn_one _) rfl rfl (wn 0) (wn_size 0) 51 a1.out ?_)
      exact bodyPost_ret (v := .tuple #[.agg (wn (ss id k)), .bool (pp id k)]) (resA2 AW Tryz.results86 _ _ w.heap.size 51 (wn (ss id k)) (wn_size _) rfl (setRow_heap _ _ _ _ _ _ J.out.a) _ (by rfl)) rfl ⟨rfl, below_setRow J.out.bel (Nat.le_refl _) _⟩
end
end Go.Proofs.YtofddbjnncgmlaaGreatDoor
