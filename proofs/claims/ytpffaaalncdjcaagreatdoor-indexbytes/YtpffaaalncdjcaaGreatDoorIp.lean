/- The walk of IndexBytes. -/
import Derived.Test.YtpffaaalncdjcaaGreatDoorIo
import Derived.Test.YtpffaaalncdjcaaGreatDoorN01
import Derived.Test.YtpffaaalncdjcaaGreatDoorN02
import Derived.Test.YtpffaaalncdjcaaGreatDoorN03
import Derived.Test.YtpffaaalncdjcaaGreatDoorN04
import Derived.Test.YtpffaaalncdjcaaGreatDoorN05
import Derived.Test.YtpffaaalncdjcaaGreatDoorN06
import Derived.Test.YtpffaaalncdjcaaGreatDoorN07
import Derived.Test.YtpffaaalncdjcaaGreatDoorN08
import Derived.Test.YtpffaaalncdjcaaGreatDoorN09
import Derived.Test.YtpffaaalncdjcaaGreatDoorN10
import Derived.Test.YtpffaaalncdjcaaGreatDoorN11
import Derived.Test.YtpffaaalncdjcaaGreatDoorN12
import Derived.Test.YtpffaaalncdjcaaGreatDoorN13
import Derived.Test.YtpffaaalncdjcaaGreatDoorN14
import Derived.Test.YtpffaaalncdjcaaGreatDoorN15
import Derived.Test.YtpffaaalncdjcaaGreatDoorN16
import Derived.Test.YtpffaaalncdjcaaGreatDoorN17
import Derived.Test.YtpffaaalncdjcaaGreatDoorN18
import Derived.Test.YtpffaaalncdjcaaGreatDoorN19
import Derived.Test.YtpffaaalncdjcaaGreatDoorN20
import Derived.Test.YtpffaaalncdjcaaGreatDoorN21
import Derived.Test.YtpffaaalncdjcaaGreatDoorN22
import Derived.Test.YtpffaaalncdjcaaGreatDoorN23
import Derived.Test.YtpffaaalncdjcaaGreatDoorN24
import Derived.Test.YtpffaaalncdjcaaGreatDoorN25
import Derived.Test.YtpffaaalncdjcaaGreatDoorN26
import Derived.Test.YtpffaaalncdjcaaGreatDoorN27
import Derived.Test.YtpffaaalncdjcaaGreatDoorN28
import Derived.Test.YtpffaaalncdjcaaGreatDoorN29
import Derived.Test.YtpffaaalncdjcaaGreatDoorN30
import Derived.Test.YtpffaaalncdjcaaGreatDoorN31
import Derived.Test.YtpffaaalncdjcaaGreatDoorN32
import Derived.Test.YtpffaaalncdjcaaGreatDoorN33
import Derived.Test.YtpffaaalncdjcaaGreatDoorN34
import Derived.Test.YtpffaaalncdjcaaGreatDoorN35
import Derived.Test.YtpffaaalncdjcaaGreatDoorN36
import Derived.Test.YtpffaaalncdjcaaGreatDoorN37
import Derived.Test.YtpffaaalncdjcaaGreatDoorN38
import Derived.Test.YtpffaaalncdjcaaGreatDoorN39
import Derived.Test.YtpffaaalncdjcaaGreatDoorN40
namespace Go.Proofs.YtpffaaalncdjcaaGreatDoor
open Go.RowKit
open Go.Deep
set_option linter.unusedVariables false
theorem yl_neqI {ops : Array Oper} {S : World → Prop} {o : Oper} {a : Act} (hw : Region.wanted o (yielded ops a.tmps) = true) (t : TypeId) (x y : Operand) (t2 : TypeId) (ho : o.op = .binOp .neq t x y t2) (c d : Array Value) (hx : a.eval x = .agg c) (hy : a.eval y = .agg d) (hg : Tryz.prog.eqGuardType Tryz.prog.depth t = false) (v : Bool) (hr : ∀ W, (Op.equalIn 10000 t (.agg c) (.agg d)).run Tryz.prog W = .ok v W) : YieldsIf Tryz.prog ops S o (.bool !v) a :=
  .inl ⟨hw, fun W _ => by
    unfold execOp
    simp only [ho, hx, hy, Sem.run_bind, run_eqGuard_agg (P := Tryz.prog) W .neq t x y c d hg, run_neq_struct, hr W, Result.andThen_ok, Sem.run_pure]⟩
section
set_option maxRecDepth 10000
set_option maxHeartbeats 8000000
theorem indexBytes_walk (w : World) (hK : Kg w) (x : En) (s : ByteArray) (hs : s.size ≤ 140737488351232) : Calls Tryz.prog 3 #[.agg x.cells.toArray, .string s] w fun r w' => r = .returned (.bool true) ∧ Below w.heap.size w w' := by
  have hm : s.size ≤ maxLen := by unfold maxLen; omega
  have b1 := (Below.refl w.heap.size w).alloc (Nat.le_refl _) (.cells x.cells.toArray 28)
  have R1 := hide (heap_alloc_last w (.cells x.cells.toArray 28))
  have B1 := hide b1
  have KS : Hid (∀ W, Below w.heap.size w W → Kg W) := fun W b => hK.next b
  have HT := hide (fun W => takeE_any s hm W)
  have HRT := hide (fun W => rtakeE_any s hm W)
  have HL := hide (fun W => lref_any x W)
  have HLK := hide (fun W => lref_any (tkE s.data.toList).1 W)
  have HM := hide (fun W => rmay_any x W)
  have HA : Hid (∀ W, Kg W → Calls Tryz.prog 10 #[] W fun e w' => e = .returned (.bool true) ∧ Below W.heap.size W w') := fun W k => awake13 W k
  have CZ := hide x.size
  have CA := hide x.all
  have KZ := hide (tkE s.data.toList).1.size
  have KA2 := hide (tkE s.data.toList).1.all
  have EA := hide (fun W => eqEn fe_api x W)
  have ER2 := hide (fun W => eqEn fe_ref (tkE s.data.toList).1 W)
  have GA : Tryz.prog.eqGuardType Tryz.prog.depth 28 = false := by kernel_rfl
  have GR : Tryz.prog.eqGuardType Tryz.prog.depth 37 = false := by kernel_rfl
  obtain ⟨TX, EB, HB, CS⟩ : ∃ (TX : ByteArray) (EB : Int), Hid (∀ W, Calls Tryz.prog 7 #[.agg x.cells.toArray] W fun e w' => e = .returned (.tuple #[.string TX, .int .i64 EB]) ∧ Below W.heap.size W w') ∧ ((x.may = false ∧ TX = ⟨#[]⟩ ∧ EB = 130) ∨ (x.may = true ∧ EB = 0 ∧ Hid (∀ W, Calls Tryz.prog 8 #[.string TX] W fun e w' => e = .returned (.tuple #[.agg x.cells.toArray, .int .i64 0]) ∧ Below W.heap.size W w') ∧ Hid (∀ W, Calls Tryz.prog 13 #[.agg x.cells.toArray] W fun e w' => e = .returned (.string TX) ∧ Below W.heap.size W w'))) := by
    cases hmy : x.may
    · exact ⟨⟨#[]⟩, 130, fun W => bytes_no x hmy W, .inl ⟨rfl, rfl, rfl⟩⟩
    · refine ⟨txt x.bytes, 0, fun W => bytes_yes x hmy W, .inr ⟨rfl, rfl, fun W => ?_, fun W => rbytesI_any x hmy W⟩⟩
      have := takeE_any (txt x.bytes) (by rw [txt_sz, x.bytes_len]; unfold maxLen; omega) W
      rw [show (txt x.bytes).data.toList = x.bytes from rfl, tkE_back x hmy] at this
      exact this
  have CS := hide CS
  clear hK hm b1
  generalize hC : x.cells.toArray = C at *
  clear hC
  generalize (tkE s.data.toList).1.cells.toArray = CK at *
  generalize (tkE s.data.toList).2 = E at *
  generalize x.may = MY at *
  go_enter Tryz.func3, Tryz.ntmps3
  go_upto_region 1 with ((with_reducible refine at_list ?_); refine wpList_boxA rfl _ rfl C rfl ?_)
  generalize w.alloc (.cells C 28) = W0 at *
  go_upto_region 2 with (first | (go_at_call 7; refine (HB.out _).mono ?_; rintro r W1 ⟨rfl, be⟩; have D1 := hide be; clear be) | ((with_reducible refine at_list ?_); refine wpList_loadS AEn _ rfl w.heap.size rfl C CZ.out 28 R1.out (by rfl) ?_))
  go_upto_region 3 with (first | (go_at_call 8; refine (HT.out _).mono ?_; rintro r W2 ⟨rfl, be⟩; have D2 := hide (below_next D1.out be); clear be) | ((with_reducible refine at_list ?_); first | refine wpList_allocA AEn rfl rfl ?_ | refine wpList_store_newA AEn rfl _ _ rfl _ rfl CK KZ.out KA2.out rfl rfl ?_))
  have b3 := (Below.refl W2.heap.size W2).alloc (Nat.le_refl _) (.cells CK 28)
  have D3 := hide (below_next D2.out b3)
  have R7 := hide (heap_alloc_last W2 (.cells CK 28))
  clear b3 D1 D2
  generalize W2.alloc (.cells CK 28) = W3 at *
  generalize W2.heap.size = g7 at *
  go_upto_region 4 with (first | (go_at_call 9; refine (HRT.out _).mono ?_; rintro r W4 ⟨rfl, be⟩; have D4 := hide (below_next D3.out be); have R7b := hide ((be.block _ (lt_heap R7.out)).trans R7.out); clear be) | ((with_reducible refine at_list ?_); first | refine wpList_allocA AEr rfl rfl ?_ | refine wpList_store_newA AEr rfl _ _ rfl _ rfl CK KZ.out KA2.out rfl rfl ?_))
  have b5 := (Below.refl W4.heap.size W4).alloc (Nat.le_refl _) (.cells CK 37)
  have D5 := hide (below_next D4.out b5)
  have R9 := hide (heap_alloc_last W4 (.cells CK 37))
  have R7c := hide ((b5.block _ (lt_heap R7b.out)).trans R7b.out)
  clear b5 D3 D4 R7 R7b
  generalize W4.alloc (.cells CK 37) = W5 at *
  generalize W4.heap.size = g9 at *
  have R1b := hide ((D5.out.block _ (lt_heap R1.out)).trans R1.out)
  have BW := hide (below_next B1.out D5.out)
  clear D5 R1 B1
  have X7 : Hid (∀ W, Below W5.heap.size W5 W → W.heap[g7]? = some (.cells CK 28 (0, 0))) := fun W b => (b.block _ (lt_heap R7c.out)).trans R7c.out
  have X9 : Hid (∀ W, Below W5.heap.size W5 W → W.heap[g9]? = some (.cells CK 37 (0, 0))) := fun W b => (b.block _ (lt_heap R9.out)).trans R9.out
  have X1 : Hid (∀ W, Below W5.heap.size W5 W → W.heap[w.heap.size]? = some (.cells C 28 (0, 0))) := fun W b => (b.block _ (lt_heap R1b.out)).trans R1b.out
  have DV1 := hide ((Below.refl W5.heap.size W5).drew)
  clear R7c R9 R1b HT HRT HB
  refine wp_region_held_drew (S := fun W => Below W5.heap.size W5 W) (by kernel_rfl) DV1.out (fun hH => ?_)
  generalize hWd : W5.drew = V1 at *
  clear hWd
  have ht2 : (E == E) = true := by simp
  have ht3 : (E != E) = false := by simp
  refine wpAnyH_ready (rs := [0]) (by kernel_rfl) (by simp) (AllReadyH.cons rfl (fun K1 hK1 => ?_) AllReadyH.nil)
  go_simp
  refine (HA.out V1 (KS.out _ (below_next BW.out DV1.out))).mono ?_
  rintro r V2 ⟨rfl, be⟩
  have DV2 := hide (below_next DV1.out be)
  clear be
  refine hK1.out _ _ DV2.out (fun hH => ?_)
  clear hK1
  refine wpAnyH_take (i := 1) (v := (.bool false)) rfl (by kernel_rfl) (by kernel_rfl) (by kernel_rfl) (fun _ _ _ h => h) (.inl ⟨by rfl, fun W _ => by go_simp⟩) hH ?_
  change wpAnyH _ _ _ _ _ _ _ (Act.put _ (some 29) _) _
  simp only [Act.put, List.setIfInBounds_toArray, List.set_cons_zero, List.set_cons_succ]
  refine wpAnyH_take (i := 2) (v := (.bool false)) rfl (by kernel_rfl) (by kernel_rfl) (by kernel_rfl) (fun _ _ _ h => h) (yl_move (by rfl) _ (by rfl) _ (by rfl)) hH ?_
  change wpAnyH _ _ _ _ _ _ _ (Act.put _ (some 30) _) _
  simp only [Act.put, List.setIfInBounds_toArray, List.set_cons_zero, List.set_cons_succ]
  refine wpAnyH_take (i := 3) (v := (.agg CK)) rfl (by kernel_rfl) (by kernel_rfl) (by kernel_rfl) (fun _ _ _ h => h) (yl_load (by rfl) _ (by rfl) _ CK (by rfl) (fun W hS => ld_row AEn KZ.out (X7.out W hS))) hH ?_
  change wpAnyH _ _ _ _ _ _ _ (Act.put _ (some 31) _) _
  simp only [Act.put, List.setIfInBounds_toArray, List.set_cons_zero, List.set_cons_succ]
  refine wpAnyH_take (i := 5) (v := (.agg CK)) rfl (by kernel_rfl) (by kernel_rfl) (by kernel_rfl) (fun _ _ _ h => h) (yl_load (by rfl) _ (by rfl) _ CK (by rfl) (fun W hS => ld_row AEr KZ.out (X9.out W hS))) hH ?_
  change wpAnyH _ _ _ _ _ _ _ (Act.put _ (some 33) _) _
  simp only [Act.put, List.setIfInBounds_toArray, List.set_cons_zero, List.set_cons_succ]
  refine wpAnyH_ready (rs := [4]) (by kernel_rfl) (by simp) (AllReadyH.cons rfl (fun K1 hK1 => ?_) AllReadyH.nil)
  go_simp
  refine (HLK.out V2).mono ?_
  rintro r V3 ⟨rfl, be⟩
  have DV3 := hide (below_next DV2.out be)
  clear be
  refine hK1.out _ _ DV3.out (fun hH => ?_)
  clear hK1
  refine wpAnyH_take (i := 6) (v := (.bool false)) rfl (by kernel_rfl) (by kernel_rfl) (by kernel_rfl) (fun _ _ _ h => h) (yl_neqI (by rfl) 37 _ _ _ (by rfl) CK CK (by rfl) (by rfl) GR true ER2.out) hH ?_
  change wpAnyH _ _ _ _ _ _ _ (Act.put _ (some 34) _) _
  simp only [Act.put, List.setIfInBounds_toArray, List.set_cons_zero, List.set_cons_succ]
  refine wpAnyH_take (i := 7) (v := (.bool false)) rfl (by kernel_rfl) (by kernel_rfl) (by kernel_rfl) (fun _ _ _ h => h) (.inl ⟨by rfl, fun W _ => by go_simp⟩) hH ?_
  change wpAnyH _ _ _ _ _ _ _ (Act.put _ (some 35) _) _
  simp only [Act.put, List.setIfInBounds_toArray, List.set_cons_zero, List.set_cons_succ]
  refine wpAnyH_take (i := 8) (v := (.bool false)) rfl (by kernel_rfl) (by kernel_rfl) (by kernel_rfl) (fun _ _ _ h => h) (yl_move (by rfl) _ (by rfl) _ (by rfl)) hH ?_
  change wpAnyH _ _ _ _ _ _ _ (Act.put _ (some 36) _) _
  simp only [Act.put, List.setIfInBounds_toArray, List.set_cons_zero, List.set_cons_succ]
  refine wpAnyH_take (i := 9) (v := (.int .i64 E)) rfl (by kernel_rfl) (by kernel_rfl) (by kernel_rfl) (fun _ _ _ h => h) (yl_move (by rfl) _ (by rfl) _ (by rfl)) hH ?_
  change wpAnyH _ _ _ _ _ _ _ (Act.put _ (some 37) _) _
  simp only [Act.put, List.setIfInBounds_toArray, List.set_cons_zero, List.set_cons_succ]
  refine wpAnyH_take (i := 10) (v := (.int .i64 E)) rfl (by kernel_rfl) (by kernel_rfl) (by kernel_rfl) (fun _ _ _ h => h) (yl_move (by rfl) _ (by rfl) _ (by rfl)) hH ?_
  change wpAnyH _ _ _ _ _ _ _ (Act.put _ (some 38) _) _
  simp only [Act.put, List.setIfInBounds_toArray, List.set_cons_zero, List.set_cons_succ]
  refine wpAnyH_take (i := 11) (v := (.bool false)) rfl (by kernel_rfl) (by kernel_rfl) (by kernel_rfl) (fun _ _ _ h => h) (.inl ⟨by rfl, fun W _ => by go_simp⟩) hH ?_
  change wpAnyH _ _ _ _ _ _ _ (Act.put _ (some 39) _) _
  simp only [Act.put, List.setIfInBounds_toArray, List.set_cons_zero, List.set_cons_succ]
  refine wpAnyH_take (i := 12) (v := (.bool false)) rfl (by kernel_rfl) (by kernel_rfl) (by kernel_rfl) (fun _ _ _ h => h) (.inl ⟨by rfl, fun W _ => by go_simp⟩) hH ?_
  change wpAnyH _ _ _ _ _ _ _ (Act.put _ (some 40) _) _
  simp only [Act.put, List.setIfInBounds_toArray, List.set_cons_zero, List.set_cons_succ]
  refine wpAnyH_done (by kernel_rfl) ?_ _
  clear hH
  have R6 := hide (X1.out _ DV3.out)
  have B6 := hide (below_next BW.out DV3.out)
  clear DV1 DV2 DV3 X7 X9 X1 BW HLK HA ER2 GR ht2 ht3 KZ KA2 KS
  rcases CS.out with ⟨hmy, htx, heb⟩ | ⟨hmy, heb, HTB, HRB⟩
  · subst hmy htx heb
    clear CS
    go_wp2_with (first | (go_at_call 11; refine (HL.out _).mono ?_; rintro r W7 ⟨rfl, be⟩; have B7 := hide (below_next B6.out be); clear be) | (go_at_call 12; refine (HM.out _).mono ?_; rintro r W8 ⟨rfl, be⟩; have B8 := hide (below_next B7.out be); clear be) | ((with_reducible refine at_list ?_); refine wpList_loadS AEn _ rfl w.heap.size rfl C CZ.out 28 R6.out (by rfl) ?_))
    go_ret
    exact ⟨rfl, B8.out⟩
  · subst hmy heb
    clear CS
    go_upto_region 8 with (first | (go_at_call 11; refine (HL.out _).mono ?_; rintro r W7 ⟨rfl, be⟩; have D7 := hide be; clear be) | (go_at_call 12; refine (HM.out _).mono ?_; rintro r W8 ⟨rfl, be⟩; have D8 := hide (below_next D7.out be); clear be) | ((with_reducible refine at_list ?_); refine wpList_loadS AEn _ rfl w.heap.size rfl C CZ.out 28 R6.out (by rfl) ?_))
    go_upto_region 9 with (first | (go_at_call 8; refine (HTB.out _).mono ?_; rintro r W9 ⟨rfl, be⟩; have D9 := hide (below_next D8.out be); clear be) | ((with_reducible refine at_list ?_); first | refine wpList_allocA AEn rfl rfl ?_ | refine wpList_store_newA AEn rfl _ _ rfl _ rfl C CZ.out CA.out rfl rfl ?_))
    have b10 := (Below.refl W9.heap.size W9).alloc (Nat.le_refl _) (.cells C 28)
    have D10 := hide (below_next D9.out b10)
    have R11 := hide (heap_alloc_last W9 (.cells C 28))
    clear b10 D7 D8 D9 HTB HM
    generalize W9.alloc (.cells C 28) = W10 at *
    generalize W9.heap.size = g11 at *
    have R2 := hide ((D10.out.block _ (lt_heap R6.out)).trans R6.out)
    have B10 := hide (below_next B6.out D10.out)
    clear D10 R6 B6
    have htt : (TX.toList == TX.toList) = true := by simp
    go_wp2_with (first | (go_at_call 11; refine (HL.out _).mono ?_; rintro r W11 ⟨rfl, be⟩; have D11 := hide be; clear be) | (go_at_call 13; refine (HRB.out _).mono ?_; rintro r W12 ⟨rfl, be⟩; have D12 := hide (below_next D11.out be); clear be; have R11b := hide ((D12.out.block _ (lt_heap R11.out)).trans R11.out); have R2b := hide ((D12.out.block _ (lt_heap R2.out)).trans R2.out)) | ((with_reducible refine at_list ?_); first | refine wpList_loadS AEn _ rfl w.heap.size rfl C CZ.out 28 R2.out (by rfl) ?_ | refine wpList_loadS AEn _ rfl w.heap.size rfl C CZ.out 28 R2b.out (by rfl) ?_ | refine wpList_loadS AEn _ rfl g11 rfl C CZ.out 28 R11b.out (by rfl) ?_ | refine wpList_eql 28 _ _ _ rfl C C rfl rfl (by rfl) GA true EA.out ?_))
    go_ret
    exact ⟨rfl, below_next B10.out D12.out⟩
end
end Go.Proofs.YtpffaaalncdjcaaGreatDoor
