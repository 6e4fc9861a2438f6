/- TreeNil's walk. -/
import Derived.Test.YthhojpplbhnnfaaGreatDoorX01
import Derived.Test.YthhojpplbhnnfaaGreatDoorX02
import Derived.Test.YthhojpplbhnnfaaGreatDoorX03
import Derived.Test.YthhojpplbhnnfaaGreatDoorX04
import Derived.Test.YthhojpplbhnnfaaGreatDoorX05
import Derived.Test.YthhojpplbhnnfaaGreatDoorX06
import Derived.Test.YthhojpplbhnnfaaGreatDoorX07
import Derived.Test.YthhojpplbhnnfaaGreatDoorX08
import Derived.Test.YthhojpplbhnnfaaGreatDoorX09
import Derived.Test.YthhojpplbhnnfaaGreatDoorX10
import Derived.Test.YthhojpplbhnnfaaGreatDoorX11
import Derived.Test.YthhojpplbhnnfaaGreatDoorX12
import Derived.Test.YthhojpplbhnnfaaGreatDoorX13
import Derived.Test.YthhojpplbhnnfaaGreatDoorX14
import Derived.Test.YthhojpplbhnnfaaGreatDoorX15
import Derived.Test.YthhojpplbhnnfaaGreatDoorX16
import Derived.Test.YthhojpplbhnnfaaGreatDoorX17
import Derived.Test.YthhojpplbhnnfaaGreatDoorX18
import Derived.Test.YthhojpplbhnnfaaGreatDoorX19
import Derived.Test.YthhojpplbhnnfaaGreatDoorX20
import Derived.Test.YthhojpplbhnnfaaGreatDoorX21
import Derived.Test.YthhojpplbhnnfaaGreatDoorX22
import Derived.Test.YthhojpplbhnnfaaGreatDoorX23
import Derived.Test.YthhojpplbhnnfaaGreatDoorX24
import Derived.Test.YthhojpplbhnnfaaGreatDoorX25
import Derived.Test.YthhojpplbhnnfaaGreatDoorX26
import Derived.Test.YthhojpplbhnnfaaGreatDoorX27
import Derived.Test.YthhojpplbhnnfaaGreatDoorX28
import Derived.Test.YthhojpplbhnnfaaGreatDoorX29
import Derived.Test.YthhojpplbhnnfaaGreatDoorX30
import Derived.Test.YthhojpplbhnnfaaGreatDoorX31
import Derived.Test.YthhojpplbhnnfaaGreatDoorX32
import Derived.Test.YthhojpplbhnnfaaGreatDoorX33
import Derived.Test.YthhojpplbhnnfaaGreatDoorX34
import Derived.Test.YthhojpplbhnnfaaGreatDoorX35
import Derived.Test.YthhojpplbhnnfaaGreatDoorX36
import Derived.Test.YthhojpplbhnnfaaGreatDoorX37
import Derived.Test.YthhojpplbhnnfaaGreatDoorX38
import Derived.Test.YthhojpplbhnnfaaGreatDoorX39
import Derived.Test.YthhojpplbhnnfaaGreatDoorX40
import Derived.Test.YthhojpplbhnnfaaGreatDoorX41
import Derived.Test.YthhojpplbhnnfaaGreatDoorX42
import Derived.Test.YthhojpplbhnnfaaGreatDoorX43
import Derived.Test.YthhojpplbhnnfaaGreatDoorX44
import Derived.Test.YthhojpplbhnnfaaGreatDoorY01
import Derived.Test.YthhojpplbhnnfaaGreatDoorY02
import Derived.Test.YthhojpplbhnnfaaGreatDoorY03
import Derived.Test.YthhojpplbhnnfaaGreatDoorY04
import Derived.Test.YthhojpplbhnnfaaGreatDoorY05
import Derived.Test.YthhojpplbhnnfaaGreatDoorY06
namespace Go.Proofs.YthhojpplbhnnfaaGreatDoor
open Go.RowKit
open Go.Deep
open Go.Maps
set_option linter.unusedVariables false
set_option linter.unusedSimpArgs false
section
set_option maxRecDepth 10000
set_option maxHeartbeats 16000000
theorem treeNil_walk (w : World) (hK : Kg w) (x : Hd) (l : List UInt8) (hl : l.length = 32) (n : Int) : Calls Tryz.prog 5 #[.agg x.cells.toArray, .agg (hc l), .int .i64 n] w fun r w' => r = .returned (.bool true) ∧ Below w.heap.size w w' := by
  have s1 : (w.alloc (.cells x.cells.toArray 48)).heap.size = w.heap.size + 1 := by simp
  have R3 := hide ((Below.heap_alloc _ (.cells (hc l) 46) _ (lt_heap (heap_alloc_last w (.cells x.cells.toArray 48)))).trans (heap_alloc_last w (.cells x.cells.toArray 48)))
  have R4 := hide (heap_alloc_last (w.alloc (.cells x.cells.toArray 48)) (.cells (hc l) 46))
  have B1 := hide (((Below.refl w.heap.size w).alloc (Nat.le_refl _) (.cells x.cells.toArray 48)).alloc (by rw [s1]; omega) (.cells (hc l) 46))
  rw [s1] at R4
  have KS : Hid (∀ W, Below w.heap.size w W → Kg W) := fun W b => hK.next b
  have CZ := hide (And.intro x.size (And.intro (show (hc l).size = 32 by rw [hc_size, hl]) (hc_one l)))
  have ZZ := hide (And.intro (show (hc zeros).size = 32 by rw [hc_size, zeros_len]) (hc_one zeros))
  have NZ := hide (And.intro zTno.pubA_size zTno.pubA_all)
  have HA := hide (fun m W => addT_nil x m W)
  have HB := hide (fun W => bodyT_nil l W)
  have HC := hide (fun W => badT_nil l W)
  have HD := hide (fun W => getT_nil l hl W)
  have HE := hide (fun W => atT_nil l hl n W)
  have HF := hide (fun W => forkT_nil l l hl W)
  have HG : Hid (∀ W, Kg W → Calls Tryz.prog 10 #[] W fun e w' => e = .returned (.bool true) ∧ Below W.heap.size W w') := fun W k => awake14 W k
  have HH := hide (fun W => aboveT_nil l hl W)
  have HI := hide (fun W => betterT_nil l hl W)
  have HJ := hide (fun W => kidsT_nil l hl W)
  have HKt := hide tipsT_nil
  have HL := hide (fun W => chainT_nil l hl W)
  have HM := hide allT_nil
  have HN := hide lenT_nil
  have HO := hide bestT_nil
  have HP := hide bestHT_nil
  have HQ := hide (fun W => nextT_nil l hl W)
  have HR := hide (fun W => medT_nil l hl W)
  have HS := hide cloneT_nil
  have EG : Hid (Tryz.prog.eqGuardType Tryz.prog.depth 46 = false) := by show _ = _; kernel_rfl
  have EQ : Hid (∀ W, (Op.equalIn 10000 46 (.agg (hc zeros)) (.agg (hc zeros))).run Tryz.prog W = .ok true W) := fun W => by
    rw [eqH14 _ _ zeros_len zeros_len]
    simp
  clear hK
  generalize hc l = C at *
  generalize x.cells.toArray = CX at *
  go_enter Tryz.func5, Tryz.ntmps5
  go_upto_region 2 with ((with_reducible refine at_list ?_); first | refine wpList_boxA rfl _ rfl CX rfl ?_ | refine wpList_boxA rfl _ rfl C rfl ?_)
  try rw [s1]
  clear s1
  generalize (w.alloc (.cells CX 48)).alloc (.cells C 46) = W0 at *
  go_upto_region 3 with (first | (go_at_call 19; refine (HA.out _ _).mono ?_; rintro e W2 ⟨rfl, be⟩; have D2 := hide be; clear be) | ((with_reducible refine at_list ?_); first | refine wpList_loadS AHd _ rfl w.heap.size rfl CX CZ.out.1 48 R3.out (by rfl) ?_))
  have Q2 := hide ((D2.out.block _ (lt_heap R4.out)).trans R4.out)
  go_upto_region 4 with (first | (go_at_call 15; refine (HB.out _).mono ?_; rintro e W3 ⟨rfl, be⟩; have D3 := hide (below_next D2.out be); clear be) | ((with_reducible refine at_list ?_); first | refine wpList_loadS A25 _ rfl (w.heap.size + 1) rfl C CZ.out.2.1 46 Q2.out (by rfl) ?_))
  have Q3 := hide ((D3.out.block _ (lt_heap R4.out)).trans R4.out)
  go_upto_region 5 with (first | (go_at_call 20; refine (HC.out _).mono ?_; rintro e W4 ⟨rfl, be⟩; have D4 := hide (below_next D3.out be); clear be) | ((with_reducible refine at_list ?_); first | refine wpList_loadS A25 _ rfl (w.heap.size + 1) rfl C CZ.out.2.1 46 Q3.out (by rfl) ?_))
  have Q4 := hide ((D4.out.block _ (lt_heap R4.out)).trans R4.out)
  go_upto_region 6 with (first | (go_at_call 16; refine (HD.out _).mono ?_; rintro e W5 ⟨rfl, be⟩; have D5 := hide (below_next D4.out be); clear be) | ((with_reducible refine at_list ?_); first | refine wpList_loadS A25 _ rfl (w.heap.size + 1) rfl C CZ.out.2.1 46 Q4.out (by rfl) ?_ | refine wpList_allocA ANo rfl rfl ?_ | refine wpList_store_newA ANo rfl _ _ rfl _ rfl zTno.pub.toArray NZ.out.1 NZ.out.2 rfl rfl ?_))
  have D6 := hide (below_next D5.out ((Below.refl W5.heap.size W5).alloc (Nat.le_refl _) (.cells zTno.pub.toArray 53)))
  generalize W5.alloc (.cells zTno.pub.toArray 53) = W6 at *
  have Q6 := hide ((D6.out.block _ (lt_heap R4.out)).trans R4.out)
  go_upto_region 7 with (first | (go_at_call 21; refine (HE.out _).mono ?_; rintro e W7 ⟨rfl, be⟩; have D7 := hide (below_next D6.out be); clear be) | ((with_reducible refine at_list ?_); first | refine wpList_loadS A25 _ rfl (w.heap.size + 1) rfl C CZ.out.2.1 46 Q6.out (by rfl) ?_ | refine wpList_allocA A25 rfl rfl ?_ | refine wpList_store_newA A25 rfl _ _ rfl _ rfl (hc zeros) ZZ.out.1 ZZ.out.2 rfl rfl ?_))
  have D8 := hide (below_next D7.out ((Below.refl W7.heap.size W7).alloc (Nat.le_refl _) (.cells (hc zeros) 46)))
  generalize W7.alloc (.cells (hc zeros) 46) = W8 at *
  have Q8 := hide ((D8.out.block _ (lt_heap R4.out)).trans R4.out)
  go_upto_region 8 with (first | (go_at_call 22; refine (HF.out _).mono ?_; rintro e W9 ⟨rfl, be⟩; have D9 := hide (below_next D8.out be); clear be) | ((with_reducible refine at_list ?_); first | refine wpList_loadS A25 _ rfl (w.heap.size + 1) rfl C CZ.out.2.1 46 Q8.out (by rfl) ?_ | refine wpList_allocA A25 rfl rfl ?_ | refine wpList_store_newA A25 rfl _ _ rfl _ rfl (hc zeros) ZZ.out.1 ZZ.out.2 rfl rfl ?_))
  have DA := hide (below_next D9.out ((Below.refl W9.heap.size W9).alloc (Nat.le_refl _) (.cells (hc zeros) 46)))
  generalize W9.alloc (.cells (hc zeros) 46) = WA at *
  have BA := hide (below_next B1.out DA.out)
  have QA : Hid (∀ W, Below W0.heap.size W0 W → W.heap[w.heap.size + 1]? = some (.cells C 46 (0, 0))) := fun W b => (b.block _ (lt_heap R4.out)).trans R4.out
  have B0 := hide B1.out
  clear D2 Q2 D3 Q3 D4 Q4 D5 D6 Q6 D7 D8 Q8 D9 R3 R4 HA HB HC HD HE HF B1 NZ
  simp only [List.append]
  go_wp2_with (first | (go_at_call 10; refine (HG.out _ (KS.out _ BA.out)).mono ?_; rintro e Wb ⟨rfl, be⟩; have DWb := hide (below_next DA.out be); have QWb := hide (QA.out _ DWb.out); clear be) | (go_at_call 23; refine (HH.out _).mono ?_; rintro e Wc ⟨rfl, be⟩; have DWc := hide (below_next DWb.out be); have QWc := hide (QA.out _ DWc.out); clear be) | (go_at_call 24; refine (HI.out _).mono ?_; rintro e Wd ⟨rfl, be⟩; have DWd := hide (below_next DWc.out be); have QWd := hide (QA.out _ DWd.out); clear be) | (go_at_call 25; refine (HJ.out _).mono ?_; rintro e We ⟨rfl, be⟩; have DWe := hide (below_next DWd.out be); have QWe := hide (QA.out _ DWe.out); clear be) | (go_at_call 26; refine (HKt.out _).mono ?_; rintro e Wf ⟨rfl, be⟩; have DWf := hide (below_next DWe.out be); have QWf := hide (QA.out _ DWf.out); clear be) | (go_at_call 27; refine (HL.out _).mono ?_; rintro e Wg ⟨rfl, be⟩; have DWg := hide (below_next DWf.out be); have QWg := hide (QA.out _ DWg.out); clear be) | (go_at_call 14; refine (HM.out _).mono ?_; rintro e Wh ⟨a, rfl, be⟩; have DWh := hide (below_next DWg.out be); have QWh := hide (QA.out _ DWh.out); clear be) | (go_at_call 17; refine (HO.out _).mono ?_; rintro e Wi ⟨rfl, be⟩; have DWi := hide (below_next DWh.out be); have QWi := hide (QA.out _ DWi.out); clear be) | (go_at_call 29; refine (HP.out _).mono ?_; rintro e Wj ⟨rfl, be⟩; have DWj := hide (below_next DWi.out be); have QWj := hide (QA.out _ DWj.out); clear be) | (go_at_call 30; refine (HQ.out _).mono ?_; rintro e Wk ⟨rfl, be⟩; have DWk := hide (below_next DWj.out be); have QWk := hide (QA.out _ DWk.out); clear be) | (go_at_call 31; refine (HR.out _).mono ?_; rintro e Wl ⟨rfl, be⟩; have DWl := hide (below_next DWk.out be); have QWl := hide (QA.out _ DWl.out); clear be) | (go_at_call 28; refine (HN.out _).mono ?_; rintro e Wz ⟨rfl, hq⟩; subst Wz) | (go_at_call 32; refine (HS.out _).mono ?_; rintro e Wz ⟨rfl, hq⟩; subst Wz) | ((with_reducible refine at_list ?_); first | refine wpList_loadS A25 _ rfl (w.heap.size + 1) rfl C CZ.out.2.1 46 QWb.out (by rfl) ?_ | refine wpList_loadS A25 _ rfl (w.heap.size + 1) rfl C CZ.out.2.1 46 QWc.out (by rfl) ?_ | refine wpList_loadS A25 _ rfl (w.heap.size + 1) rfl C CZ.out.2.1 46 QWd.out (by rfl) ?_ | refine wpList_loadS A25 _ rfl (w.heap.size + 1) rfl C CZ.out.2.1 46 QWe.out (by rfl) ?_ | refine wpList_loadS A25 _ rfl (w.heap.size + 1) rfl C CZ.out.2.1 46 QWf.out (by rfl) ?_ | refine wpList_loadS A25 _ rfl (w.heap.size + 1) rfl C CZ.out.2.1 46 QWg.out (by rfl) ?_ | refine wpList_loadS A25 _ rfl (w.heap.size + 1) rfl C CZ.out.2.1 46 QWh.out (by rfl) ?_ | refine wpList_loadS A25 _ rfl (w.heap.size + 1) rfl C CZ.out.2.1 46 QWi.out (by rfl) ?_ | refine wpList_loadS A25 _ rfl (w.heap.size + 1) rfl C CZ.out.2.1 46 QWj.out (by rfl) ?_ | refine wpList_loadS A25 _ rfl (w.heap.size + 1) rfl C CZ.out.2.1 46 QWk.out (by rfl) ?_ | refine wpList_buildV A25 rfl (by rfl) ?_ | refine wpList_eql 46 _ _ _ rfl (hc zeros) (hc zeros) rfl rfl (by rfl) EG.out true EQ.out ?_))
  go_ret
  exact ⟨rfl, below_next B0.out DWl.out⟩
end
end Go.Proofs.YthhojpplbhnnfaaGreatDoor
