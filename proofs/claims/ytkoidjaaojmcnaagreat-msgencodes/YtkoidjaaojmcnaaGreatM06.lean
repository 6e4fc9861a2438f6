/- slices.Equal of the kinds of elements that messages hold: its contracts. -/
import Derived.Test.YtkoidjaaojmcnaaGreatM05
namespace Go.Proofs.YtkoidjaaojmcnaaGreat
open Go.RowKit
open Go.Deep
theorem qLoadX {α : Type} (E : Ek α) {kd : TypeDesc} (hu : Tryz.prog.underlying E.e = some kd) (hkd : kd.isRow = true) {C : World → Prop} {a : Act} {o : Oper} {K : Act → Prop} (x : Operand) (ho : o.op = .load E.e x) (g off : Nat) (hx : a.eval x = .pointer (some ⟨g, off, none⟩)) (y : α) (hr : ∀ W, C W → W.rangeAt g off (E.enc y))
    (hk : K (a.put o.dst (.agg (E.enc y).toArray))) : o.quiet Tryz.prog a C K := by
  refine ⟨.agg (E.enc y).toArray, fun W hC => ?_, hk⟩
  unfold Oper.quietAt execOp
  simp only [ho, hx, Sem.run_bind, E.load y hu hkd (hr W hC), Result.andThen_ok, Sem.run_pure]
  exact ⟨rfl, rfl⟩
theorem quiet_neqX {C : World → Prop} {a : Act} {o : Oper} {K : Act → Prop} (t : TypeId) (x y : Operand) (t2 : TypeId) (ho : o.op = .binOp .neq t x y t2) (c d : Array Value) (hx : a.eval x = .agg c) (hy : a.eval y = .agg d) (hg : Tryz.prog.eqGuardType Tryz.prog.depth t = false)
    (v : Bool) (hr : ∀ W, (Op.equalIn 10000 t (.agg c) (.agg d)).run Tryz.prog W = .ok v W) (hk : K (a.put o.dst (.bool !v))) : o.quiet Tryz.prog a C K := by
  refine ⟨.bool !v, fun W _ => ?_, hk⟩
  unfold Oper.quietAt execOp
  simp only [ho, hx, hy, Sem.run_bind, run_eqGuard_agg (P := Tryz.prog) W .neq t x y c d hg, run_neq_struct, hr W, Result.andThen_ok, Sem.run_pure]
  exact ⟨rfl, rfl⟩
theorem LX.cellX {α : Type} {E : Ek α} {w : World} {g off n cap : Nat} {L : List α} (h : LX E w (.slice (some ⟨g, off, none⟩) n cap) L) (i : Nat) (hi : i < L.length) {v : Value} (he : E.enc L[i] = [v]) (hk : E.k = 1) : w.cell? ⟨g, off + i, none⟩ = some v := by
  have := h.range i hi
  rw [he, hk, Nat.mul_one] at this
  exact this 0 v rfl

section
set_option maxRecDepth 10000
set_option maxHeartbeats 4000000
set_option linter.unusedSimpArgs false
theorem equal_net (va vb : Value) (xs ys : List Nt) (w : World) (ha : LX KN w va xs) (hb : LX KN w vb ys) (hn : xs.length < 4611686018427387904) :
    Calls Tryz.prog 69 #[va, vb] w fun e w' => e = .returned (.bool (decide (xs = ys))) ∧ Below w.heap.size w w' := by
  obtain ⟨aa, ca, rfl⟩ := ha.form
  obtain ⟨ab, cb, rfl⟩ := hb.form
  have HA := hide ha
  have HB := hide hb
  clear ha hb
  by_cases hl : xs.length = ys.length
  · have hl2 : ((xs.length : Int) != (ys.length : Int)) = false := by rw [hl]; simp
    obtain ⟨r, hr⟩ : ∃ r : Bool, r = decide (xs = ys) := ⟨_, rfl⟩
    have HR := hide hr
    rw [← hr]
    have HL := hide hl
    clear hr hl
    go_enter Tryz.func69, Tryz.ntmps69
    go_wp2
    go_loopw [5, 13] (fun _ d wr => ∃ k : Nat, k ≤ xs.length ∧ d = .int .i64 (k : Int) ∧ Hid (∀ j, j < k → xs[j]? = ys[j]?) ∧ Hid (Below w.heap.size w wr)) (fun _ d _ => (xs.length - intOf d).toNat)
    case atStart => exact ⟨0, Nat.zero_le _, rfl, fun j hj => by omega, Below.refl _ _⟩
    case round =>
      obtain ⟨k, hk, rfl, HJ, BW⟩ := hrel
      by_cases hlt : k < xs.length
      · have h1 : (k : Int) < (xs.length : Int) := by omega
        have h2 : (k : Int) < (ys.length : Int) := by have := HL.out; omega
        have h3 : (0 : Int) ≤ (k : Int) := by omega
        have e1 : IntKind.i64.wrap ((k : Int) + 1) = k + 1 := wrapI _ (by omega) (by omega)
        have hlb : k < ys.length := by have := HL.out; omega
        obtain ⟨ga, oa, rfl⟩ := HA.out.base (by omega)
        obtain ⟨gb, ob, rfl⟩ := HB.out.base (by omega)
        have KK := hide (And.intro (show k + 1 ≤ xs.length by omega) (show ((xs.length : Int) - ((k : Int) + 1)).toNat < ((xs.length : Int) - (k : Int)).toNat by omega))
        have HX : Hid (xs[k]? = some xs[k]) := List.getElem?_eq_getElem hlt
        have HY : Hid (ys[k]? = some ys[k]) := List.getElem?_eq_getElem hlb
        have RA : Hid (∀ W, Below w.heap.size w W → W.rangeAt ga (oa + k * 19) (KN.enc xs[k])) := fun W h => (HA.out.below h).range k hlt
        have RB : Hid (∀ W, Below w.heap.size w W → W.rangeAt gb (ob + k * 19) (KN.enc ys[k])) := fun W h => (HB.out.below h).range k hlb
        have EQ := hide (eqNt fn_api xs[k] ys[k])
        generalize xs[k] = x at *
        generalize ys[k] = y at *
        clear hlt hlb hk
        by_cases hxy : x = y
        · have HN : Hid (∀ j, j < k + 1 → xs[j]? = ys[j]?) := fun j hj => by
            rcases Nat.lt_or_ge j k with h | h
            · exact HJ.out j h
            · rw [show j = k by omega, HX.out, HY.out, hxy]
          rw [decide_eq_true hxy] at EQ
          go_upto_region 6 with fail
          obtain ⟨I, hneI, F, i0, hd0, hJ, hcl⟩ : ∃ (I : Type) (_ : Nonempty I) (F : I → World) (i0 : I), wr.drew = F i0 ∧ Hid (∀ i, Below w.heap.size w (F i)) ∧ Hid (∀ i W', Below (F i).heap.size (F i) W' → ∃ j, W' = F j) :=
            ⟨{W : World // Below w.heap.size w W}, ⟨⟨_, BW.out⟩⟩, Subtype.val, ⟨wr.drew, BW.out.drew⟩, rfl, fun i => i.2, fun i W' b => ⟨⟨W', below_next i.2 b⟩, rfl⟩⟩
          refine wp_region_class_lit (by kernel_rfl) (by kernel_rfl) i0 hd0 ?_
          repeat (first | ((go_big_quiet_want; first | refine qLoadX KN Tryz.underlying27 rfl _ (by rfl) ga (oa + k * 19) (by rfl) x (fun W hC => by obtain ⟨i, rfl⟩ := hC; exact RA.out _ (hJ.out i)) ?_ | refine qLoadX KN Tryz.underlying27 rfl _ (by rfl) gb (ob + k * 19) (by rfl) y (fun W hC => by obtain ⟨i, rfl⟩ := hC; exact RB.out _ (hJ.out i)) ?_ | refine quiet_neqX 27 _ _ _ (by rfl) (KN.enc x).toArray (KN.enc y).toArray (by rfl) (by rfl) (by kernel_rfl) true EQ.out ?_); go_big_quiet_on; simp only [Act.put, List.setIfInBounds_toArray, List.set_cons_succ, List.set_cons_zero, Bool.not_true, Bool.not_false]) | go_big_quiet_step (fail))
          refine wpQuiet_nil ?_
          rintro _ ⟨iq, rfl⟩
          have BF := hide (hJ.out iq)
          clear hJ hcl hd0 BW
          generalize F iq = W2 at *
          go_wp2
          exact ⟨⟨k + 1, KK.out.1, by go_num, HN, BF⟩, by simpa [intOf] using KK.out.2⟩
        · have hr : r = false := by
            rw [HR.out, decide_eq_false_iff_not]
            rintro rfl
            exact hxy (Option.some.inj (HX.out.symm.trans HY.out))
          subst hr
          rw [decide_eq_false hxy] at EQ
          go_upto_region 6 with fail
          obtain ⟨I, hneI, F, i0, hd0, hJ, hcl⟩ : ∃ (I : Type) (_ : Nonempty I) (F : I → World) (i0 : I), wr.drew = F i0 ∧ Hid (∀ i, Below w.heap.size w (F i)) ∧ Hid (∀ i W', Below (F i).heap.size (F i) W' → ∃ j, W' = F j) :=
            ⟨{W : World // Below w.heap.size w W}, ⟨⟨_, BW.out⟩⟩, Subtype.val, ⟨wr.drew, BW.out.drew⟩, rfl, fun i => i.2, fun i W' b => ⟨⟨W', below_next i.2 b⟩, rfl⟩⟩
          refine wp_region_class_lit (by kernel_rfl) (by kernel_rfl) i0 hd0 ?_
          repeat (first | ((go_big_quiet_want; first | refine qLoadX KN Tryz.underlying27 rfl _ (by rfl) ga (oa + k * 19) (by rfl) x (fun W hC => by obtain ⟨i, rfl⟩ := hC; exact RA.out _ (hJ.out i)) ?_ | refine qLoadX KN Tryz.underlying27 rfl _ (by rfl) gb (ob + k * 19) (by rfl) y (fun W hC => by obtain ⟨i, rfl⟩ := hC; exact RB.out _ (hJ.out i)) ?_ | refine quiet_neqX 27 _ _ _ (by rfl) (KN.enc x).toArray (KN.enc y).toArray (by rfl) (by rfl) (by kernel_rfl) false EQ.out ?_); go_big_quiet_on; simp only [Act.put, List.setIfInBounds_toArray, List.set_cons_succ, List.set_cons_zero, Bool.not_true, Bool.not_false]) | go_big_quiet_step (fail))
          refine wpQuiet_nil ?_
          rintro _ ⟨iq, rfl⟩
          have BF := hide (hJ.out iq)
          clear hJ hcl hd0 BW
          generalize F iq = W2 at *
          go_wp2
          go_ret
          exact ⟨rfl, BF.out⟩
      · have h1 : ¬ (k : Int) < (xs.length : Int) := by omega
        have hr : r = true := by
          rw [HR.out, decide_eq_true_eq]
          apply List.ext_getElem?
          intro i
          rcases Nat.lt_or_ge i k with h | h
          · exact HJ.out i h
          · rw [List.getElem?_eq_none (by omega), List.getElem?_eq_none (by have := HL.out; omega)]
        subst hr
        clear hlt hk
        go_wp2
        go_ret
        exact ⟨rfl, BW.out⟩
  · have hl2 : ((xs.length : Int) != (ys.length : Int)) = true := by rw [bne_iff_ne]; omega
    rw [show decide (xs = ys) = false from decide_eq_false (fun h => hl (by rw [h]))]
    clear hl
    go_enter Tryz.func69, Tryz.ntmps69
    go_wp2
    go_ret
    exact ⟨rfl, Below.refl _ _⟩
end
section
set_option maxRecDepth 10000
set_option maxHeartbeats 4000000
set_option linter.unusedSimpArgs false
theorem equal_item (va vb : Value) (xs ys : List Im) (w : World) (ha : LX KI w va xs) (hb : LX KI w vb ys) (hn : xs.length < 4611686018427387904) :
    Calls Tryz.prog 70 #[va, vb] w fun e w' => e = .returned (.bool (decide (xs = ys))) ∧ Below w.heap.size w w' := by
  obtain ⟨aa, ca, rfl⟩ := ha.form
  obtain ⟨ab, cb, rfl⟩ := hb.form
  have HA := hide ha
  have HB := hide hb
  clear ha hb
  by_cases hl : xs.length = ys.length
  · have hl2 : ((xs.length : Int) != (ys.length : Int)) = false := by rw [hl]; simp
    obtain ⟨r, hr⟩ : ∃ r : Bool, r = decide (xs = ys) := ⟨_, rfl⟩
    have HR := hide hr
    rw [← hr]
    have HL := hide hl
    clear hr hl
    go_enter Tryz.func70, Tryz.ntmps70
    go_wp2
    go_loopw [5, 13] (fun _ d wr => ∃ k : Nat, k ≤ xs.length ∧ d = .int .i64 (k : Int) ∧ Hid (∀ j, j < k → xs[j]? = ys[j]?) ∧ Hid (Below w.heap.size w wr)) (fun _ d _ => (xs.length - intOf d).toNat)
    case atStart => exact ⟨0, Nat.zero_le _, rfl, fun j hj => by omega, Below.refl _ _⟩
    case round =>
      obtain ⟨k, hk, rfl, HJ, BW⟩ := hrel
      by_cases hlt : k < xs.length
      · have h1 : (k : Int) < (xs.length : Int) := by omega
        have h2 : (k : Int) < (ys.length : Int) := by have := HL.out; omega
        have h3 : (0 : Int) ≤ (k : Int) := by omega
        have e1 : IntKind.i64.wrap ((k : Int) + 1) = k + 1 := wrapI _ (by omega) (by omega)
        have hlb : k < ys.length := by have := HL.out; omega
        obtain ⟨ga, oa, rfl⟩ := HA.out.base (by omega)
        obtain ⟨gb, ob, rfl⟩ := HB.out.base (by omega)
        have KK := hide (And.intro (show k + 1 ≤ xs.length by omega) (show ((xs.length : Int) - ((k : Int) + 1)).toNat < ((xs.length : Int) - (k : Int)).toNat by omega))
        have HX : Hid (xs[k]? = some xs[k]) := List.getElem?_eq_getElem hlt
        have HY : Hid (ys[k]? = some ys[k]) := List.getElem?_eq_getElem hlb
        have RA : Hid (∀ W, Below w.heap.size w W → W.rangeAt ga (oa + k * 33) (KI.enc xs[k])) := fun W h => (HA.out.below h).range k hlt
        have RB : Hid (∀ W, Below w.heap.size w W → W.rangeAt gb (ob + k * 33) (KI.enc ys[k])) := fun W h => (HB.out.below h).range k hlb
        have EQ := hide (eqIm fi_api xs[k] ys[k])
        generalize xs[k] = x at *
        generalize ys[k] = y at *
        clear hlt hlb hk
        by_cases hxy : x = y
        · have HN : Hid (∀ j, j < k + 1 → xs[j]? = ys[j]?) := fun j hj => by
            rcases Nat.lt_or_ge j k with h | h
            · exact HJ.out j h
            · rw [show j = k by omega, HX.out, HY.out, hxy]
          rw [decide_eq_true hxy] at EQ
          go_upto_region 6 with fail
          obtain ⟨I, hneI, F, i0, hd0, hJ, hcl⟩ : ∃ (I : Type) (_ : Nonempty I) (F : I → World) (i0 : I), wr.drew = F i0 ∧ Hid (∀ i, Below w.heap.size w (F i)) ∧ Hid (∀ i W', Below (F i).heap.size (F i) W' → ∃ j, W' = F j) :=
            ⟨{W : World // Below w.heap.size w W}, ⟨⟨_, BW.out⟩⟩, Subtype.val, ⟨wr.drew, BW.out.drew⟩, rfl, fun i => i.2, fun i W' b => ⟨⟨W', below_next i.2 b⟩, rfl⟩⟩
          refine wp_region_class_lit (by kernel_rfl) (by kernel_rfl) i0 hd0 ?_
          repeat (first | ((go_big_quiet_want; first | refine qLoadX KI Tryz.underlying73 rfl _ (by rfl) ga (oa + k * 33) (by rfl) x (fun W hC => by obtain ⟨i, rfl⟩ := hC; exact RA.out _ (hJ.out i)) ?_ | refine qLoadX KI Tryz.underlying73 rfl _ (by rfl) gb (ob + k * 33) (by rfl) y (fun W hC => by obtain ⟨i, rfl⟩ := hC; exact RB.out _ (hJ.out i)) ?_ | refine quiet_neqX 73 _ _ _ (by rfl) (KI.enc x).toArray (KI.enc y).toArray (by rfl) (by rfl) (by kernel_rfl) true EQ.out ?_); go_big_quiet_on; simp only [Act.put, List.setIfInBounds_toArray, List.set_cons_succ, List.set_cons_zero, Bool.not_true, Bool.not_false]) | go_big_quiet_step (fail))
          refine wpQuiet_nil ?_
          rintro _ ⟨iq, rfl⟩
          have BF := hide (hJ.out iq)
          clear hJ hcl hd0 BW
          generalize F iq = W2 at *
          go_wp2
          exact ⟨⟨k + 1, KK.out.1, by go_num, HN, BF⟩, by simpa [intOf] using KK.out.2⟩
        · have hr : r = false := by
            rw [HR.out, decide_eq_false_iff_not]
            rintro rfl
            exact hxy (Option.some.inj (HX.out.symm.trans HY.out))
          subst hr
          rw [decide_eq_false hxy] at EQ
          go_upto_region 6 with fail
          obtain ⟨I, hneI, F, i0, hd0, hJ, hcl⟩ : ∃ (I : Type) (_ : Nonempty I) (F : I → World) (i0 : I), wr.drew = F i0 ∧ Hid (∀ i, Below w.heap.size w (F i)) ∧ Hid (∀ i W', Below (F i).heap.size (F i) W' → ∃ j, W' = F j) :=
            ⟨{W : World // Below w.heap.size w W}, ⟨⟨_, BW.out⟩⟩, Subtype.val, ⟨wr.drew, BW.out.drew⟩, rfl, fun i => i.2, fun i W' b => ⟨⟨W', below_next i.2 b⟩, rfl⟩⟩
          refine wp_region_class_lit (by kernel_rfl) (by kernel_rfl) i0 hd0 ?_
          repeat (first | ((go_big_quiet_want; first | refine qLoadX KI Tryz.underlying73 rfl _ (by rfl) ga (oa + k * 33) (by rfl) x (fun W hC => by obtain ⟨i, rfl⟩ := hC; exact RA.out _ (hJ.out i)) ?_ | refine qLoadX KI Tryz.underlying73 rfl _ (by rfl) gb (ob + k * 33) (by rfl) y (fun W hC => by obtain ⟨i, rfl⟩ := hC; exact RB.out _ (hJ.out i)) ?_ | refine quiet_neqX 73 _ _ _ (by rfl) (KI.enc x).toArray (KI.enc y).toArray (by rfl) (by rfl) (by kernel_rfl) false EQ.out ?_); go_big_quiet_on; simp only [Act.put, List.setIfInBounds_toArray, List.set_cons_succ, List.set_cons_zero, Bool.not_true, Bool.not_false]) | go_big_quiet_step (fail))
          refine wpQuiet_nil ?_
          rintro _ ⟨iq, rfl⟩
          have BF := hide (hJ.out iq)
          clear hJ hcl hd0 BW
          generalize F iq = W2 at *
          go_wp2
          go_ret
          exact ⟨rfl, BF.out⟩
      · have h1 : ¬ (k : Int) < (xs.length : Int) := by omega
        have hr : r = true := by
          rw [HR.out, decide_eq_true_eq]
          apply List.ext_getElem?
          intro i
          rcases Nat.lt_or_ge i k with h | h
          · exact HJ.out i h
          · rw [List.getElem?_eq_none (by omega), List.getElem?_eq_none (by have := HL.out; omega)]
        subst hr
        clear hlt hk
        go_wp2
        go_ret
        exact ⟨rfl, BW.out⟩
  · have hl2 : ((xs.length : Int) != (ys.length : Int)) = true := by rw [bne_iff_ne]; omega
    rw [show decide (xs = ys) = false from decide_eq_false (fun h => hl (by rw [h]))]
    clear hl
    go_enter Tryz.func70, Tryz.ntmps70
    go_wp2
    go_ret
    exact ⟨rfl, Below.refl _ _⟩
end
section
set_option maxRecDepth 10000
set_option maxHeartbeats 4000000
set_option linter.unusedSimpArgs false
theorem equal_hash (va vb : Value) (xs ys : List Id32) (w : World) (ha : LX KH w va xs) (hb : LX KH w vb ys) (hn : xs.length < 4611686018427387904) :
    Calls Tryz.prog 71 #[va, vb] w fun e w' => e = .returned (.bool (decide (xs = ys))) ∧ Below w.heap.size w w' := by
  obtain ⟨aa, ca, rfl⟩ := ha.form
  obtain ⟨ab, cb, rfl⟩ := hb.form
  have HA := hide ha
  have HB := hide hb
  clear ha hb
  by_cases hl : xs.length = ys.length
  · have hl2 : ((xs.length : Int) != (ys.length : Int)) = false := by rw [hl]; simp
    obtain ⟨r, hr⟩ : ∃ r : Bool, r = decide (xs = ys) := ⟨_, rfl⟩
    have HR := hide hr
    rw [← hr]
    have HL := hide hl
    clear hr hl
    go_enter Tryz.func71, Tryz.ntmps71
    go_wp2
    go_loopw [5, 13] (fun _ d wr => ∃ k : Nat, k ≤ xs.length ∧ d = .int .i64 (k : Int) ∧ Hid (∀ j, j < k → xs[j]? = ys[j]?) ∧ Hid (Below w.heap.size w wr)) (fun _ d _ => (xs.length - intOf d).toNat)
    case atStart => exact ⟨0, Nat.zero_le _, rfl, fun j hj => by omega, Below.refl _ _⟩
    case round =>
      obtain ⟨k, hk, rfl, HJ, BW⟩ := hrel
      by_cases hlt : k < xs.length
      · have h1 : (k : Int) < (xs.length : Int) := by omega
        have h2 : (k : Int) < (ys.length : Int) := by have := HL.out; omega
        have h3 : (0 : Int) ≤ (k : Int) := by omega
        have e1 : IntKind.i64.wrap ((k : Int) + 1) = k + 1 := wrapI _ (by omega) (by omega)
        have hlb : k < ys.length := by have := HL.out; omega
        obtain ⟨ga, oa, rfl⟩ := HA.out.base (by omega)
        obtain ⟨gb, ob, rfl⟩ := HB.out.base (by omega)
        have KK := hide (And.intro (show k + 1 ≤ xs.length by omega) (show ((xs.length : Int) - ((k : Int) + 1)).toNat < ((xs.length : Int) - (k : Int)).toNat by omega))
        have HX : Hid (xs[k]? = some xs[k]) := List.getElem?_eq_getElem hlt
        have HY : Hid (ys[k]? = some ys[k]) := List.getElem?_eq_getElem hlb
        have RA : Hid (∀ W, Below w.heap.size w W → W.rangeAt ga (oa + k * 32) (KH.enc xs[k])) := fun W h => (HA.out.below h).range k hlt
        have RB : Hid (∀ W, Below w.heap.size w W → W.rangeAt gb (ob + k * 32) (KH.enc ys[k])) := fun W h => (HB.out.below h).range k hlb
        have EQ := hide (eqId Tryz.underlying32 xs[k] ys[k])
        generalize xs[k] = x at *
        generalize ys[k] = y at *
        clear hlt hlb hk
        by_cases hxy : x = y
        · have HN : Hid (∀ j, j < k + 1 → xs[j]? = ys[j]?) := fun j hj => by
            rcases Nat.lt_or_ge j k with h | h
            · exact HJ.out j h
            · rw [show j = k by omega, HX.out, HY.out, hxy]
          rw [decide_eq_true hxy] at EQ
          go_upto_region 6 with fail
          obtain ⟨I, hneI, F, i0, hd0, hJ, hcl⟩ : ∃ (I : Type) (_ : Nonempty I) (F : I → World) (i0 : I), wr.drew = F i0 ∧ Hid (∀ i, Below w.heap.size w (F i)) ∧ Hid (∀ i W', Below (F i).heap.size (F i) W' → ∃ j, W' = F j) :=
            ⟨{W : World // Below w.heap.size w W}, ⟨⟨_, BW.out⟩⟩, Subtype.val, ⟨wr.drew, BW.out.drew⟩, rfl, fun i => i.2, fun i W' b => ⟨⟨W', below_next i.2 b⟩, rfl⟩⟩
          refine wp_region_class_lit (by kernel_rfl) (by kernel_rfl) i0 hd0 ?_
          repeat (first | ((go_big_quiet_want; first | refine qLoadX KH Tryz.underlying32 rfl _ (by rfl) ga (oa + k * 32) (by rfl) x (fun W hC => by obtain ⟨i, rfl⟩ := hC; exact RA.out _ (hJ.out i)) ?_ | refine qLoadX KH Tryz.underlying32 rfl _ (by rfl) gb (ob + k * 32) (by rfl) y (fun W hC => by obtain ⟨i, rfl⟩ := hC; exact RB.out _ (hJ.out i)) ?_ | refine quiet_neqX 32 _ _ _ (by rfl) (KH.enc x).toArray (KH.enc y).toArray (by rfl) (by rfl) (by kernel_rfl) true EQ.out ?_); go_big_quiet_on; simp only [Act.put, List.setIfInBounds_toArray, List.set_cons_succ, List.set_cons_zero, Bool.not_true, Bool.not_false]) | go_big_quiet_step (fail))
          refine wpQuiet_nil ?_
          rintro _ ⟨iq, rfl⟩
          have BF := hide (hJ.out iq)
          clear hJ hcl hd0 BW
          generalize F iq = W2 at *
          go_wp2
          exact ⟨⟨k + 1, KK.out.1, by go_num, HN, BF⟩, by simpa [intOf] using KK.out.2⟩
        · have hr : r = false := by
            rw [HR.out, decide_eq_false_iff_not]
            rintro rfl
            exact hxy (Option.some.inj (HX.out.symm.trans HY.out))
          subst hr
          rw [decide_eq_false hxy] at EQ
          go_upto_region 6 with fail
          obtain ⟨I, hneI, F, i0, hd0, hJ, hcl⟩ : ∃ (I : Type) (_ : Nonempty I) (F : I → World) (i0 : I), wr.drew = F i0 ∧ Hid (∀ i, Below w.heap.size w (F i)) ∧ Hid (∀ i W', Below (F i).heap.size (F i) W' → ∃ j, W' = F j) :=
            ⟨{W : World // Below w.heap.size w W}, ⟨⟨_, BW.out⟩⟩, Subtype.val, ⟨wr.drew, BW.out.drew⟩, rfl, fun i => i.2, fun i W' b => ⟨⟨W', below_next i.2 b⟩, rfl⟩⟩
          refine wp_region_class_lit (by kernel_rfl) (by kernel_rfl) i0 hd0 ?_
          repeat (first | ((go_big_quiet_want; first | refine qLoadX KH Tryz.underlying32 rfl _ (by rfl) ga (oa + k * 32) (by rfl) x (fun W hC => by obtain ⟨i, rfl⟩ := hC; exact RA.out _ (hJ.out i)) ?_ | refine qLoadX KH Tryz.underlying32 rfl _ (by rfl) gb (ob + k * 32) (by rfl) y (fun W hC => by obtain ⟨i, rfl⟩ := hC; exact RB.out _ (hJ.out i)) ?_ | refine quiet_neqX 32 _ _ _ (by rfl) (KH.enc x).toArray (KH.enc y).toArray (by rfl) (by rfl) (by kernel_rfl) false EQ.out ?_); go_big_quiet_on; simp only [Act.put, List.setIfInBounds_toArray, List.set_cons_succ, List.set_cons_zero, Bool.not_true, Bool.not_false]) | go_big_quiet_step (fail))
          refine wpQuiet_nil ?_
          rintro _ ⟨iq, rfl⟩
          have BF := hide (hJ.out iq)
          clear hJ hcl hd0 BW
          generalize F iq = W2 at *
          go_wp2
          go_ret
          exact ⟨rfl, BF.out⟩
      · have h1 : ¬ (k : Int) < (xs.length : Int) := by omega
        have hr : r = true := by
          rw [HR.out, decide_eq_true_eq]
          apply List.ext_getElem?
          intro i
          rcases Nat.lt_or_ge i k with h | h
          · exact HJ.out i h
          · rw [List.getElem?_eq_none (by omega), List.getElem?_eq_none (by have := HL.out; omega)]
        subst hr
        clear hlt hk
        go_wp2
        go_ret
        exact ⟨rfl, BW.out⟩
  · have hl2 : ((xs.length : Int) != (ys.length : Int)) = true := by rw [bne_iff_ne]; omega
    rw [show decide (xs = ys) = false from decide_eq_false (fun h => hl (by rw [h]))]
    clear hl
    go_enter Tryz.func71, Tryz.ntmps71
    go_wp2
    go_ret
    exact ⟨rfl, Below.refl _ _⟩
end
section
set_option maxRecDepth 10000
set_option maxHeartbeats 4000000
set_option linter.unusedSimpArgs false
theorem equal_filled (va vb : Value) (xs ys : List Fd) (w : World) (ha : LX KF w va xs) (hb : LX KF w vb ys) (hn : xs.length < 4611686018427387904) :
    Calls Tryz.prog 74 #[va, vb] w fun e w' => e = .returned (.bool (decide (xs = ys))) ∧ Below w.heap.size w w' := by
  obtain ⟨aa, ca, rfl⟩ := ha.form
  obtain ⟨ab, cb, rfl⟩ := hb.form
  have HA := hide ha
  have HB := hide hb
  clear ha hb
  by_cases hl : xs.length = ys.length
  · have hl2 : ((xs.length : Int) != (ys.length : Int)) = false := by rw [hl]; simp
    obtain ⟨r, hr⟩ : ∃ r : Bool, r = decide (xs = ys) := ⟨_, rfl⟩
    have HR := hide hr
    rw [← hr]
    have HL := hide hl
    clear hr hl
    go_enter Tryz.func74, Tryz.ntmps74
    go_wp2
    go_loopw [5, 13] (fun _ d wr => ∃ k : Nat, k ≤ xs.length ∧ d = .int .i64 (k : Int) ∧ Hid (∀ j, j < k → xs[j]? = ys[j]?) ∧ Hid (Below w.heap.size w wr)) (fun _ d _ => (xs.length - intOf d).toNat)
    case atStart => exact ⟨0, Nat.zero_le _, rfl, fun j hj => by omega, Below.refl _ _⟩
    case round =>
      obtain ⟨k, hk, rfl, HJ, BW⟩ := hrel
      by_cases hlt : k < xs.length
      · have h1 : (k : Int) < (xs.length : Int) := by omega
        have h2 : (k : Int) < (ys.length : Int) := by have := HL.out; omega
        have h3 : (0 : Int) ≤ (k : Int) := by omega
        have e1 : IntKind.i64.wrap ((k : Int) + 1) = k + 1 := wrapI _ (by omega) (by omega)
        have hlb : k < ys.length := by have := HL.out; omega
        obtain ⟨ga, oa, rfl⟩ := HA.out.base (by omega)
        obtain ⟨gb, ob, rfl⟩ := HB.out.base (by omega)
        have KK := hide (And.intro (show k + 1 ≤ xs.length by omega) (show ((xs.length : Int) - ((k : Int) + 1)).toNat < ((xs.length : Int) - (k : Int)).toNat by omega))
        have HX : Hid (xs[k]? = some xs[k]) := List.getElem?_eq_getElem hlt
        have HY : Hid (ys[k]? = some ys[k]) := List.getElem?_eq_getElem hlb
        have RA : Hid (∀ W, Below w.heap.size w W → W.rangeAt ga (oa + k * 2) (KF.enc xs[k])) := fun W h => (HA.out.below h).range k hlt
        have RB : Hid (∀ W, Below w.heap.size w W → W.rangeAt gb (ob + k * 2) (KF.enc ys[k])) := fun W h => (HB.out.below h).range k hlb
        have EQ := hide (eqFd ff_api xs[k] ys[k])
        generalize xs[k] = x at *
        generalize ys[k] = y at *
        clear hlt hlb hk
        by_cases hxy : x = y
        · have HN : Hid (∀ j, j < k + 1 → xs[j]? = ys[j]?) := fun j hj => by
            rcases Nat.lt_or_ge j k with h | h
            · exact HJ.out j h
            · rw [show j = k by omega, HX.out, HY.out, hxy]
          rw [decide_eq_true hxy] at EQ
          go_upto_region 6 with fail
          obtain ⟨I, hneI, F, i0, hd0, hJ, hcl⟩ : ∃ (I : Type) (_ : Nonempty I) (F : I → World) (i0 : I), wr.drew = F i0 ∧ Hid (∀ i, Below w.heap.size w (F i)) ∧ Hid (∀ i W', Below (F i).heap.size (F i) W' → ∃ j, W' = F j) :=
            ⟨{W : World // Below w.heap.size w W}, ⟨⟨_, BW.out⟩⟩, Subtype.val, ⟨wr.drew, BW.out.drew⟩, rfl, fun i => i.2, fun i W' b => ⟨⟨W', below_next i.2 b⟩, rfl⟩⟩
          refine wp_region_class_lit (by kernel_rfl) (by kernel_rfl) i0 hd0 ?_
          repeat (first | ((go_big_quiet_want; first | refine qLoadX KF Tryz.underlying77 rfl _ (by rfl) ga (oa + k * 2) (by rfl) x (fun W hC => by obtain ⟨i, rfl⟩ := hC; exact RA.out _ (hJ.out i)) ?_ | refine qLoadX KF Tryz.underlying77 rfl _ (by rfl) gb (ob + k * 2) (by rfl) y (fun W hC => by obtain ⟨i, rfl⟩ := hC; exact RB.out _ (hJ.out i)) ?_ | refine quiet_neqX 77 _ _ _ (by rfl) (KF.enc x).toArray (KF.enc y).toArray (by rfl) (by rfl) (by kernel_rfl) true EQ.out ?_); go_big_quiet_on; simp only [Act.put, List.setIfInBounds_toArray, List.set_cons_succ, List.set_cons_zero, Bool.not_true, Bool.not_false]) | go_big_quiet_step (fail))
          refine wpQuiet_nil ?_
          rintro _ ⟨iq, rfl⟩
          have BF := hide (hJ.out iq)
          clear hJ hcl hd0 BW
          generalize F iq = W2 at *
          go_wp2
          exact ⟨⟨k + 1, KK.out.1, by go_num, HN, BF⟩, by simpa [intOf] using KK.out.2⟩
        · have hr : r = false := by
            rw [HR.out, decide_eq_false_iff_not]
            rintro rfl
            exact hxy (Option.some.inj (HX.out.symm.trans HY.out))
          subst hr
          rw [decide_eq_false hxy] at EQ
          go_upto_region 6 with fail
          obtain ⟨I, hneI, F, i0, hd0, hJ, hcl⟩ : ∃ (I : Type) (_ : Nonempty I) (F : I → World) (i0 : I), wr.drew = F i0 ∧ Hid (∀ i, Below w.heap.size w (F i)) ∧ Hid (∀ i W', Below (F i).heap.size (F i) W' → ∃ j, W' = F j) :=
            ⟨{W : World // Below w.heap.size w W}, ⟨⟨_, BW.out⟩⟩, Subtype.val, ⟨wr.drew, BW.out.drew⟩, rfl, fun i => i.2, fun i W' b => ⟨⟨W', below_next i.2 b⟩, rfl⟩⟩
          refine wp_region_class_lit (by kernel_rfl) (by kernel_rfl) i0 hd0 ?_
          repeat (first | ((go_big_quiet_want; first | refine qLoadX KF Tryz.underlying77 rfl _ (by rfl) ga (oa + k * 2) (by rfl) x (fun W hC => by obtain ⟨i, rfl⟩ := hC; exact RA.out _ (hJ.out i)) ?_ | refine qLoadX KF Tryz.underlying77 rfl _ (by rfl) gb (ob + k * 2) (by rfl) y (fun W hC => by obtain ⟨i, rfl⟩ := hC; exact RB.out _ (hJ.out i)) ?_ | refine quiet_neqX 77 _ _ _ (by rfl) (KF.enc x).toArray (KF.enc y).toArray (by rfl) (by rfl) (by kernel_rfl) false EQ.out ?_); go_big_quiet_on; simp only [Act.put, List.setIfInBounds_toArray, List.set_cons_succ, List.set_cons_zero, Bool.not_true, Bool.not_false]) | go_big_quiet_step (fail))
          refine wpQuiet_nil ?_
          rintro _ ⟨iq, rfl⟩
          have BF := hide (hJ.out iq)
          clear hJ hcl hd0 BW
          generalize F iq = W2 at *
          go_wp2
          go_ret
          exact ⟨rfl, BF.out⟩
      · have h1 : ¬ (k : Int) < (xs.length : Int) := by omega
        have hr : r = true := by
          rw [HR.out, decide_eq_true_eq]
          apply List.ext_getElem?
          intro i
          rcases Nat.lt_or_ge i k with h | h
          · exact HJ.out i h
          · rw [List.getElem?_eq_none (by omega), List.getElem?_eq_none (by have := HL.out; omega)]
        subst hr
        clear hlt hk
        go_wp2
        go_ret
        exact ⟨rfl, BW.out⟩
  · have hl2 : ((xs.length : Int) != (ys.length : Int)) = true := by rw [bne_iff_ne]; omega
    rw [show decide (xs = ys) = false from decide_eq_false (fun h => hl (by rw [h]))]
    clear hl
    go_enter Tryz.func74, Tryz.ntmps74
    go_wp2
    go_ret
    exact ⟨rfl, Below.refl _ _⟩
end
section
set_option maxRecDepth 10000
set_option maxHeartbeats 4000000
set_option linter.unusedSimpArgs false
theorem equal_u64 (va vb : Value) (xs ys : List UInt64) (w : World) (ha : LX KU w va xs) (hb : LX KU w vb ys) (hn : xs.length < 4611686018427387904) :
    Calls Tryz.prog 73 #[va, vb] w fun e w' => e = .returned (.bool (decide (xs = ys))) ∧ Below w.heap.size w w' := by
  obtain ⟨aa, ca, rfl⟩ := ha.form
  obtain ⟨ab, cb, rfl⟩ := hb.form
  have HA := hide ha
  have HB := hide hb
  clear ha hb
  by_cases hl : xs.length = ys.length
  · have hl2 : ((xs.length : Int) != (ys.length : Int)) = false := by rw [hl]; simp
    obtain ⟨r, hr⟩ : ∃ r : Bool, r = decide (xs = ys) := ⟨_, rfl⟩
    have HR := hide hr
    rw [← hr]
    have HL := hide hl
    clear hr hl
    go_enter Tryz.func73, Tryz.ntmps73
    go_wp2
    go_loopw [5, 13] (fun _ d wr => ∃ k : Nat, k ≤ xs.length ∧ d = .int .i64 (k : Int) ∧ Hid (∀ j, j < k → xs[j]? = ys[j]?) ∧ Hid (Below w.heap.size w wr)) (fun _ d _ => (xs.length - intOf d).toNat)
    case atStart => exact ⟨0, Nat.zero_le _, rfl, fun j hj => by omega, Below.refl _ _⟩
    case round =>
      obtain ⟨k, hk, rfl, HJ, BW⟩ := hrel
      by_cases hlt : k < xs.length
      · have h1 : (k : Int) < (xs.length : Int) := by omega
        have h2 : (k : Int) < (ys.length : Int) := by have := HL.out; omega
        have h3 : (0 : Int) ≤ (k : Int) := by omega
        have e1 : IntKind.i64.wrap ((k : Int) + 1) = k + 1 := wrapI _ (by omega) (by omega)
        have hlb : k < ys.length := by have := HL.out; omega
        obtain ⟨ga, oa, rfl⟩ := HA.out.base (by omega)
        obtain ⟨gb, ob, rfl⟩ := HB.out.base (by omega)
        have KK := hide (And.intro (show k + 1 ≤ xs.length by omega) (show ((xs.length : Int) - ((k : Int) + 1)).toNat < ((xs.length : Int) - (k : Int)).toNat by omega))
        have HX : Hid (xs[k]? = some xs[k]) := List.getElem?_eq_getElem hlt
        have HY : Hid (ys[k]? = some ys[k]) := List.getElem?_eq_getElem hlb
        have ca2 := (HA.out.below BW.out).cellX k hlt rfl rfl
        have cb2 := (HB.out.below BW.out).cellX k hlb rfl rfl
        generalize xs[k] = x at *
        generalize ys[k] = y at *
        clear hlt hlb hk
        by_cases hxy : x = y
        · have HN : Hid (∀ j, j < k + 1 → xs[j]? = ys[j]?) := fun j hj => by
            rcases Nat.lt_or_ge j k with h | h
            · exact HJ.out j h
            · rw [show j = k by omega, HX.out, HY.out, hxy]
          have q1 : ((x.toNat : Int) != (y.toNat : Int)) = false := by rw [hxy]; simp
          clear HX HY
          go_upto_region 6 with fail
          go_quiet (fail)
          have BF := hide (below_drewN BW.out nq)
          go_wp2
          exact ⟨⟨k + 1, KK.out.1, by go_num, HN, BF⟩, by simpa [intOf] using KK.out.2⟩
        · have hr : r = false := by
            rw [HR.out, decide_eq_false_iff_not]
            rintro rfl
            exact hxy (Option.some.inj (HX.out.symm.trans HY.out))
          subst hr
          have q1 : ((x.toNat : Int) != (y.toNat : Int)) = true := by rw [bne_iff_ne]; intro h; exact hxy (UInt64.toNat_inj.1 (by omega))
          clear HX HY
          go_upto_region 6 with fail
          go_quiet (fail)
          have BF := hide (below_drewN BW.out nq)
          go_wp2
          go_ret
          exact ⟨rfl, BF.out⟩
      · have h1 : ¬ (k : Int) < (xs.length : Int) := by omega
        have hr : r = true := by
          rw [HR.out, decide_eq_true_eq]
          apply List.ext_getElem?
          intro i
          rcases Nat.lt_or_ge i k with h | h
          · exact HJ.out i h
          · rw [List.getElem?_eq_none (by omega), List.getElem?_eq_none (by have := HL.out; omega)]
        subst hr
        clear hlt hk
        go_wp2
        go_ret
        exact ⟨rfl, BW.out⟩
  · have hl2 : ((xs.length : Int) != (ys.length : Int)) = true := by rw [bne_iff_ne]; omega
    rw [show decide (xs = ys) = false from decide_eq_false (fun h => hl (by rw [h]))]
    clear hl
    go_enter Tryz.func73, Tryz.ntmps73
    go_wp2
    go_ret
    exact ⟨rfl, Below.refl _ _⟩
end
section
set_option maxRecDepth 10000
set_option maxHeartbeats 4000000
set_option linter.unusedSimpArgs false
theorem equal_int (va vb : Value) (xs ys : List Int) (w : World) (ha : LX KP w va xs) (hb : LX KP w vb ys) (hn : xs.length < 4611686018427387904) :
    Calls Tryz.prog 75 #[va, vb] w fun e w' => e = .returned (.bool (decide (xs = ys))) ∧ Below w.heap.size w w' := by
  obtain ⟨aa, ca, rfl⟩ := ha.form
  obtain ⟨ab, cb, rfl⟩ := hb.form
  have HA := hide ha
  have HB := hide hb
  clear ha hb
  by_cases hl : xs.length = ys.length
  · have hl2 : ((xs.length : Int) != (ys.length : Int)) = false := by rw [hl]; simp
    obtain ⟨r, hr⟩ : ∃ r : Bool, r = decide (xs = ys) := ⟨_, rfl⟩
    have HR := hide hr
    rw [← hr]
    have HL := hide hl
    clear hr hl
    go_enter Tryz.func75, Tryz.ntmps75
    go_wp2
    go_loopw [5, 13] (fun _ d wr => ∃ k : Nat, k ≤ xs.length ∧ d = .int .i64 (k : Int) ∧ Hid (∀ j, j < k → xs[j]? = ys[j]?) ∧ Hid (Below w.heap.size w wr)) (fun _ d _ => (xs.length - intOf d).toNat)
    case atStart => exact ⟨0, Nat.zero_le _, rfl, fun j hj => by omega, Below.refl _ _⟩
    case round =>
      obtain ⟨k, hk, rfl, HJ, BW⟩ := hrel
      by_cases hlt : k < xs.length
      · have h1 : (k : Int) < (xs.length : Int) := by omega
        have h2 : (k : Int) < (ys.length : Int) := by have := HL.out; omega
        have h3 : (0 : Int) ≤ (k : Int) := by omega
        have e1 : IntKind.i64.wrap ((k : Int) + 1) = k + 1 := wrapI _ (by omega) (by omega)
        have hlb : k < ys.length := by have := HL.out; omega
        obtain ⟨ga, oa, rfl⟩ := HA.out.base (by omega)
        obtain ⟨gb, ob, rfl⟩ := HB.out.base (by omega)
        have KK := hide (And.intro (show k + 1 ≤ xs.length by omega) (show ((xs.length : Int) - ((k : Int) + 1)).toNat < ((xs.length : Int) - (k : Int)).toNat by omega))
        have HX : Hid (xs[k]? = some xs[k]) := List.getElem?_eq_getElem hlt
        have HY : Hid (ys[k]? = some ys[k]) := List.getElem?_eq_getElem hlb
        have ca2 := (HA.out.below BW.out).cellX k hlt rfl rfl
        have cb2 := (HB.out.below BW.out).cellX k hlb rfl rfl
        generalize xs[k] = x at *
        generalize ys[k] = y at *
        clear hlt hlb hk
        by_cases hxy : x = y
        · have HN : Hid (∀ j, j < k + 1 → xs[j]? = ys[j]?) := fun j hj => by
            rcases Nat.lt_or_ge j k with h | h
            · exact HJ.out j h
            · rw [show j = k by omega, HX.out, HY.out, hxy]
          have q1 : (x != y) = false := by rw [hxy]; simp
          clear HX HY
          go_upto_region 6 with fail
          go_quiet (fail)
          have BF := hide (below_drewN BW.out nq)
          go_wp2
          exact ⟨⟨k + 1, KK.out.1, by go_num, HN, BF⟩, by simpa [intOf] using KK.out.2⟩
        · have hr : r = false := by
            rw [HR.out, decide_eq_false_iff_not]
            rintro rfl
            exact hxy (Option.some.inj (HX.out.symm.trans HY.out))
          subst hr
          have q1 : (x != y) = true := by rw [bne_iff_ne]; exact hxy
          clear HX HY
          go_upto_region 6 with fail
          go_quiet (fail)
          have BF := hide (below_drewN BW.out nq)
          go_wp2
          go_ret
          exact ⟨rfl, BF.out⟩
      · have h1 : ¬ (k : Int) < (xs.length : Int) := by omega
        have hr : r = true := by
          rw [HR.out, decide_eq_true_eq]
          apply List.ext_getElem?
          intro i
          rcases Nat.lt_or_ge i k with h | h
          · exact HJ.out i h
          · rw [List.getElem?_eq_none (by omega), List.getElem?_eq_none (by have := HL.out; omega)]
        subst hr
        clear hlt hk
        go_wp2
        go_ret
        exact ⟨rfl, BW.out⟩
  · have hl2 : ((xs.length : Int) != (ys.length : Int)) = true := by rw [bne_iff_ne]; omega
    rw [show decide (xs = ys) = false from decide_eq_false (fun h => hl (by rw [h]))]
    clear hl
    go_enter Tryz.func75, Tryz.ntmps75
    go_wp2
    go_ret
    exact ⟨rfl, Below.refl _ _⟩
end
section
set_option maxRecDepth 10000
set_option maxHeartbeats 4000000
set_option linter.unusedSimpArgs false
theorem equal_string (va vb : Value) (xs ys : List ByteArray) (w : World) (ha : LX KS w va xs) (hb : LX KS w vb ys) (hn : xs.length < 4611686018427387904) :
    Calls Tryz.prog 72 #[va, vb] w fun e w' => e = .returned (.bool (decide (xs = ys))) ∧ Below w.heap.size w w' := by
  obtain ⟨aa, ca, rfl⟩ := ha.form
  obtain ⟨ab, cb, rfl⟩ := hb.form
  have HA := hide ha
  have HB := hide hb
  clear ha hb
  by_cases hl : xs.length = ys.length
  · have hl2 : ((xs.length : Int) != (ys.length : Int)) = false := by rw [hl]; simp
    obtain ⟨r, hr⟩ : ∃ r : Bool, r = decide (xs = ys) := ⟨_, rfl⟩
    have HR := hide hr
    rw [← hr]
    have HL := hide hl
    clear hr hl
    go_enter Tryz.func72, Tryz.ntmps72
    go_wp2
    go_loopw [5, 13] (fun _ d wr => ∃ k : Nat, k ≤ xs.length ∧ d = .int .i64 (k : Int) ∧ Hid (∀ j, j < k → xs[j]? = ys[j]?) ∧ Hid (Below w.heap.size w wr)) (fun _ d _ => (xs.length - intOf d).toNat)
    case atStart => exact ⟨0, Nat.zero_le _, rfl, fun j hj => by omega, Below.refl _ _⟩
    case round =>
      obtain ⟨k, hk, rfl, HJ, BW⟩ := hrel
      by_cases hlt : k < xs.length
      · have h1 : (k : Int) < (xs.length : Int) := by omega
        have h2 : (k : Int) < (ys.length : Int) := by have := HL.out; omega
        have h3 : (0 : Int) ≤ (k : Int) := by omega
        have e1 : IntKind.i64.wrap ((k : Int) + 1) = k + 1 := wrapI _ (by omega) (by omega)
        have hlb : k < ys.length := by have := HL.out; omega
        obtain ⟨ga, oa, rfl⟩ := HA.out.base (by omega)
        obtain ⟨gb, ob, rfl⟩ := HB.out.base (by omega)
        have KK := hide (And.intro (show k + 1 ≤ xs.length by omega) (show ((xs.length : Int) - ((k : Int) + 1)).toNat < ((xs.length : Int) - (k : Int)).toNat by omega))
        have HX : Hid (xs[k]? = some xs[k]) := List.getElem?_eq_getElem hlt
        have HY : Hid (ys[k]? = some ys[k]) := List.getElem?_eq_getElem hlb
        have ca2 := (HA.out.below BW.out).cellX k hlt rfl rfl
        have cb2 := (HB.out.below BW.out).cellX k hlb rfl rfl
        generalize xs[k] = x at *
        generalize ys[k] = y at *
        clear hlt hlb hk
        by_cases hxy : x = y
        · have HN : Hid (∀ j, j < k + 1 → xs[j]? = ys[j]?) := fun j hj => by
            rcases Nat.lt_or_ge j k with h | h
            · exact HJ.out j h
            · rw [show j = k by omega, HX.out, HY.out, hxy]
          have q1 : (x.toList == y.toList) = true := by rw [hxy]; simp
          clear HX HY
          go_upto_region 6 with fail
          go_quiet (fail)
          have BF := hide (below_drewN BW.out nq)
          go_wp2
          exact ⟨⟨k + 1, KK.out.1, by go_num, HN, BF⟩, by simpa [intOf] using KK.out.2⟩
        · have hr : r = false := by
            rw [HR.out, decide_eq_false_iff_not]
            rintro rfl
            exact hxy (Option.some.inj (HX.out.symm.trans HY.out))
          subst hr
          have q1 : (x.toList == y.toList) = false := by rw [bytes_same]; exact decide_eq_false hxy
          clear HX HY
          go_upto_region 6 with fail
          go_quiet (fail)
          have BF := hide (below_drewN BW.out nq)
          go_wp2
          go_ret
          exact ⟨rfl, BF.out⟩
      · have h1 : ¬ (k : Int) < (xs.length : Int) := by omega
        have hr : r = true := by
          rw [HR.out, decide_eq_true_eq]
          apply List.ext_getElem?
          intro i
          rcases Nat.lt_or_ge i k with h | h
          · exact HJ.out i h
          · rw [List.getElem?_eq_none (by omega), List.getElem?_eq_none (by have := HL.out; omega)]
        subst hr
        clear hlt hk
        go_wp2
        go_ret
        exact ⟨rfl, BW.out⟩
  · have hl2 : ((xs.length : Int) != (ys.length : Int)) = true := by rw [bne_iff_ne]; omega
    rw [show decide (xs = ys) = false from decide_eq_false (fun h => hl (by rw [h]))]
    clear hl
    go_enter Tryz.func72, Tryz.ntmps72
    go_wp2
    go_ret
    exact ⟨rfl, Below.refl _ _⟩
end
end Go.Proofs.YtkoidjaaojmcnaaGreat
