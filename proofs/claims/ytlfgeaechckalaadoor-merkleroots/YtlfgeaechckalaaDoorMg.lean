/- The contracts of the statements' given, same and few. -/
import Derived.Test.YtlfgeaechckalaaDoorMf
namespace Go.Proofs.YtlfgeaechckalaaDoor
open Go.RowKit
open Go.Deep
theorem LH.H {w : World} {v : Value} {L : List (List UInt8)} (h : LH w v L) : H32 L := h.1
theorem take_snocL (L : List (List UInt8)) (k : Nat) (h : k < L.length) : L.take (k + 1) = L.take k ++ [ia L k] := by
  rw [List.take_succ_eq_append_getElem h, ia_get L k h]
theorem H32.take {L : List (List UInt8)} (h : H32 L) (k : Nat) : H32 (L.take k) := fun x hx => h x (List.mem_of_mem_take hx)
theorem ia_take (L : List (List UInt8)) (n i : Nat) (h : i < n) : ia (L.take n) i = ia L i := by
  unfold ia
  rw [List.getD_eq_getElem?_getD, List.getD_eq_getElem?_getD, List.getElem?_take, if_pos h]
theorem LH.take {w : World} {ao : Option Addr} {n cap m : Nat} {L : List (List UInt8)} (h : LH w (.slice ao n cap) L) (hm : m ≤ L.length) : LH w (.slice ao m cap) (L.take m) := by
  obtain ⟨h1, ao', cap', e, h2, h3⟩ := h
  injection e with e1 e2 e3
  subst e1 e3
  have hl : (L.take m).length = m := by simp; omega
  refine ⟨h1.take m, ao, cap, by rw [hl], by omega, fun i hi => ?_⟩
  rw [hl] at hi
  rw [ia_take L m i hi]
  exact h3 i (by omega)
/-- Arrays held against each other by '!=', as an operation of a quiet walk. -/
theorem quiet_neqH {C : World → Prop} {a : Act} {o : Oper} {K : Act → Prop} (t : TypeId) (x y : Operand) (t2 : TypeId) (ho : o.op = .binOp .neq t x y t2) (c d : Array Value) (hx : a.eval x = .agg c) (hy : a.eval y = .agg d) (hg : Tryd.prog.eqGuardType Tryd.prog.depth t = false)
    (v : Bool) (hr : ∀ W, (Op.equalIn 10000 t (.agg c) (.agg d)).run Tryd.prog W = .ok v W) (hk : K (a.put o.dst (.bool !v))) : o.quiet Tryd.prog a C K := by
  refine ⟨.bool !v, fun W _ => ?_, hk⟩
  unfold Oper.quietAt execOp
  simp only [ho, hx, hy, Sem.run_bind, run_eqGuard_agg (P := Tryd.prog) W .neq t x y c d hg, run_neq_struct, hr W, Result.andThen_ok, Sem.run_pure]
  exact ⟨rfl, rfl⟩
section
set_option maxRecDepth 10000
set_option maxHeartbeats 2000000
theorem few_any (v : Value) (L : List (List UInt8)) (w : World) (hL : LH w v L) : Calls Tryd.prog 7 #[v] w fun e w' => ∃ v', e = .returned v' ∧ w' = w ∧ LH w v' (L.take 300) := by
  obtain ⟨ao, cap, rfl⟩ := hL.form
  by_cases h : 300 < L.length
  · have h1 : (300 : Int) < (L.length : Int) := by omega
    obtain ⟨g, off, rfl⟩ := hL.base (by omega)
    have h2 : 300 ≤ cap := by
      obtain ⟨_, _, _, e, h2, _⟩ := hL
      injection e with e1 e2 e3
      omega
    have HT := hide (hL.take (m := 300) (by omega))
    have h3 : (300 : Int) ≤ (cap : Int) := by omega
    clear hL h
    go_enter Tryd.func7, Tryd.ntmps7
    go_wp2
    go_ret
    exact ⟨_, rfl, rfl, HT.out⟩
  · have h1 : ¬ (300 : Int) < (L.length : Int) := by omega
    have HT := hide hL
    have he : L.take 300 = L := List.take_of_length_le (by omega)
    have HE := hide he
    clear hL h he
    go_enter Tryd.func7, Tryd.ntmps7
    go_wp2
    go_ret
    exact ⟨_, rfl, rfl, by rw [HE.out]; exact HT.out⟩
theorem given_any (v : Value) (L : List (List UInt8)) (w : World) (hL : LH w v L) (hn : L.length < 4398046511104) : Calls Tryd.prog 10 #[v] w fun e w' => ∃ v', e = .returned v' ∧ Oj 24 w w' v' L := by
  obtain ⟨ao, cap, rfl⟩ := hL.form
  have HL := hide hL
  have HN := hide hn
  have H3 := hide hL.1
  have J0 : Hid (Oj 24 w (w.alloc (.cells #[] 24)) (.slice (some ⟨w.heap.size, 0, none⟩) 0 0) (L.take 0)) := ⟨by rw [List.take_zero]; exact OH.new0 w, (Below.refl _ _).alloc (Nat.le_refl _) _, fun g hg => by cases hg; exact Nat.le_refl _⟩
  clear hL hn
  go_enter Tryd.func10, Tryd.ntmps10
  go_wp2_with (refine ET.wpBs0 ER rfl rfl ?_)
  generalize w.alloc (.cells #[] 24) = W0 at *
  go_loopw [3, 5, 9] (fun v _ d wr => ∃ k : Nat, k ≤ L.length ∧ d = .int .i64 (k : Int) ∧ Hid (Oj 24 w wr v (L.take k))) (fun _ _ d _ => (L.length - intOf d).toNat)
  case atStart => exact ⟨0, Nat.zero_le _, rfl, J0⟩
  case round =>
    clear J0
    obtain ⟨k, hk, rfl, J⟩ := hrel
    have hn := HN.out
    by_cases hlt : k < L.length
    · obtain ⟨g, off, rfl⟩ := HL.out.base (by omega)
      have h1 : (k : Int) < (L.length : Int) := by omega
      have h2 : (0 : Int) ≤ (k : Int) := by omega
      have e2 : IntKind.i64.wrap ((k : Int) + 1) = k + 1 := wrapI _ (by omega) (by omega)
      have l1 := hide (H3.out.at k hlt)
      have R1 := hide ((HL.out.below J.out.bel).range k hlt)
      have SN := hide (take_snocL L k hlt)
      have SZ := hide (show (L.take k).length + 1 ≤ 4398046511104 by rw [List.length_take]; omega)
      have KK := hide (And.intro (show k + 1 ≤ L.length by omega) (show ((L.length : Int) - ((k + 1 : Nat) : Int)).toNat < ((L.length : Int) - (k : Int)).toNat by omega))
      generalize ia L k = A at *
      have J1 := hide (J.out.next ((Below.refl _ _).alloc (Nat.le_refl _) (.cells (hc A) 25)))
      have J2 := hide (J1.out.next ((Below.refl _ _).alloc (Nat.le_refl _) (.cells (hc A) 24)))
      have b1 := hide (heap_alloc_last wr (.cells (hc A) 25))
      clear hlt hk hn
      go_wp2_with (first | refine ET.wpLoad EH rfl _ rfl g (off + k * 32) rfl A l1.out R1.out ?_ | refine wpList_allocA A25 rfl rfl ?_ | refine wpList_store_newA A25 rfl _ _ rfl _ rfl (hc A) (by rw [hc_size, l1.out]) (hc_one _) rfl rfl ?_ | refine wpList_loadA A25 rfl _ rfl _ rfl (hc A) (by rw [hc_size, l1.out]) 25 b1.out ?_ | refine ET.wpBs1 ER rfl _ rfl A l1.out rfl ?_ | (at_builtin; refine ET.wpApp ER rfl _ _ rfl u3 _ rfl J2.out.own ⟨_, 0, none⟩ A l1.out rfl (one_newH _ _) SZ.out ?_; intro v' w3 hown' hon3; have J3 := hide (J2.out.onto hon3 hown')))
      exact ⟨⟨k + 1, KK.out.1, by go_num, by rw [SN.out]; exact J3⟩, by simpa [intOf] using KK.out.2⟩
    · have h1 : ¬ (k : Int) < (L.length : Int) := by omega
      have hke : L.take k = L := List.take_of_length_le (by omega)
      rw [hke] at J
      clear hke hlt hk hn
      go_wp2
      go_ret
      exact ⟨u3, rfl, J.out⟩
theorem same_any (v1 v2 : Value) (L : List (List UInt8)) (w : World) (h1 : LH w v1 L) (h2 : LH w v2 L) (hn : L.length < 4398046511104) : Calls Tryd.prog 14 #[v1, v2] w fun e w' => e = .returned (.bool true) ∧ Below w.heap.size w w' := by
  obtain ⟨ao, cap, rfl⟩ := h1.form
  obtain ⟨bo, cap2, rfl⟩ := h2.form
  have H1 := hide h1
  have H2 := hide h2
  have HN := hide hn
  have H3 := hide h1.1
  have J0 := hide (Below.refl w.heap.size w)
  clear h1 h2 hn
  go_enter Tryd.func14, Tryd.ntmps14
  go_wp2
  go_loopw [5, 13] (fun _ d wr => ∃ k : Nat, k ≤ L.length ∧ d = .int .i64 (k : Int) ∧ Hid (Below w.heap.size w wr)) (fun _ d _ => (L.length - intOf d).toNat)
  case atStart => exact ⟨0, Nat.zero_le _, rfl, J0⟩
  case round =>
    clear J0
    obtain ⟨k, hk, rfl, J⟩ := hrel
    have hn := HN.out
    by_cases hlt : k < L.length
    · obtain ⟨g, off, rfl⟩ := H1.out.base (by omega)
      obtain ⟨g2, off2, rfl⟩ := H2.out.base (by omega)
      have h1 : (k : Int) < (L.length : Int) := by omega
      have h2 : (0 : Int) ≤ (k : Int) := by omega
      have e2 : IntKind.i64.wrap ((k : Int) + 1) = k + 1 := wrapI _ (by omega) (by omega)
      have l1 := hide (H3.out.at k hlt)
      have R1 : Hid (∀ W, Below w.heap.size w W → W.rangeAt g (off + k * 32) (cellsL (ia L k))) := fun W h => (H1.out.below h).range k hlt
      have R2 : Hid (∀ W, Below w.heap.size w W → W.rangeAt g2 (off2 + k * 32) (cellsL (ia L k))) := fun W h => (H2.out.below h).range k hlt
      have EQ := hide fun W => eqH EH _ _ l1.out l1.out W
      rw [show (ia L k == ia L k) = true by simp] at EQ
      have KK := hide (And.intro (show k + 1 ≤ L.length by omega) (show ((L.length : Int) - ((k + 1 : Nat) : Int)).toNat < ((L.length : Int) - (k : Int)).toNat by omega))
      generalize ia L k = A at *
      clear hlt hk hn
      go_upto_region 6 with fail
      obtain ⟨I, hne, F, i0, h0, hJ, hcl⟩ : ∃ (I : Type) (_ : Nonempty I) (F : I → World) (i0 : I), wr.drew = F i0 ∧ Hid (∀ i, Below w.heap.size w (F i)) ∧ Hid (∀ i W', Below (F i).heap.size (F i) W' → ∃ j, W' = F j) :=
        ⟨{W : World // Below w.heap.size w W}, ⟨⟨_, J.out⟩⟩, Subtype.val, ⟨wr.drew, J.out.drew⟩, rfl, fun i => i.2, fun i W' b => ⟨⟨W', below_next i.2 b⟩, rfl⟩⟩
      refine wp_region_class_lit (by kernel_rfl) (by kernel_rfl) i0 h0 ?_
      repeat (first | ((go_big_quiet_want; first | refine ET.qLoad EH _ (by rfl) g (off + k * 32) (by rfl) A l1.out (fun W hC => by obtain ⟨i, rfl⟩ := hC; exact R1.out _ (hJ.out i)) ?_ | refine ET.qLoad ER _ (by rfl) g2 (off2 + k * 32) (by rfl) A l1.out (fun W hC => by obtain ⟨i, rfl⟩ := hC; exact R2.out _ (hJ.out i)) ?_ | refine quiet_neqH 25 _ _ _ (by rfl) (hc A) (hc A) (by rfl) (by rfl) eqg25 true EQ.out ?_); go_big_quiet_on; simp only [Act.put, List.setIfInBounds_toArray, List.set_cons_succ, List.set_cons_zero, Bool.not_true]) | go_big_quiet_step (fail))
      refine wpQuiet_nil ?_
      rintro _ ⟨iq, rfl⟩
      have J2 := hide (hJ.out iq)
      clear hJ hcl h0 J R1 R2 EQ
      generalize F iq = W2 at *
      go_wp2
      exact ⟨⟨k + 1, KK.out.1, by go_num, J2⟩, by simpa [intOf] using KK.out.2⟩
    · have h1 : ¬ (k : Int) < (L.length : Int) := by omega
      clear hlt hk hn
      go_wp2
      go_ret
      exact ⟨rfl, J.out⟩
end
end Go.Proofs.YtlfgeaechckalaaDoor
