/- The header that the law's awake mines on genesis: what the kernel reckons of it. The law's awake of layer 14: a header stands on genesis. -/
import Derived.Test.YthhojpplbhnnfaaGreatDoorX01
import Derived.Test.YthhojpplbhnnfaaGreatDoorX02
import Derived.Test.YthhojpplbhnnfaaGreatDoorX03
import Derived.Test.YthhojpplbhnnfaaGreatDoorX04
import Derived.Test.YthhojpplbhnnfaaGreatDoorX05
import Derived.Test.YthhojpplbhnnfaaGreatDoorX06
import Derived.Test.YthhojpplbhnnfaaGreatDoorX07
import Derived.Test.YthhojpplbhnnfaaGreatDoorX08
import Derived.Test.YthhojpplbhnnfaaGreatDoorX09
import Derived.Test.YthhojpplbhnnfaaGreatDoorX10
import Derived.Test.YthhojpplbhnnfaaGreatDoorX11
import Derived.Test.YthhojpplbhnnfaaGreatDoorX12
import Derived.Test.YthhojpplbhnnfaaGreatDoorX13
import Derived.Test.YthhojpplbhnnfaaGreatDoorX14
import Derived.Test.YthhojpplbhnnfaaGreatDoorX15
import Derived.Test.YthhojpplbhnnfaaGreatDoorX16
import Derived.Test.YthhojpplbhnnfaaGreatDoorX17
import Derived.Test.YthhojpplbhnnfaaGreatDoorX18
import Derived.Test.YthhojpplbhnnfaaGreatDoorX19
import Derived.Test.YthhojpplbhnnfaaGreatDoorX20
import Derived.Test.YthhojpplbhnnfaaGreatDoorX21
import Derived.Test.YthhojpplbhnnfaaGreatDoorX22
import Derived.Test.YthhojpplbhnnfaaGreatDoorX23
import Derived.Test.YthhojpplbhnnfaaGreatDoorX24
import Derived.Test.YthhojpplbhnnfaaGreatDoorX25
import Derived.Test.YthhojpplbhnnfaaGreatDoorX26
import Derived.Test.YthhojpplbhnnfaaGreatDoorX27
import Derived.Test.YthhojpplbhnnfaaGreatDoorX28
import Derived.Test.YthhojpplbhnnfaaGreatDoorX29
import Derived.Test.YthhojpplbhnnfaaGreatDoorX30
import Derived.Test.YthhojpplbhnnfaaGreatDoorX31
import Derived.Test.YthhojpplbhnnfaaGreatDoorX32
import Derived.Test.YthhojpplbhnnfaaGreatDoorX33
import Derived.Test.YthhojpplbhnnfaaGreatDoorX34
import Derived.Test.YthhojpplbhnnfaaGreatDoorX35
import Derived.Test.YthhojpplbhnnfaaGreatDoorX36
import Derived.Test.YthhojpplbhnnfaaGreatDoorX37
import Derived.Test.YthhojpplbhnnfaaGreatDoorX38
import Derived.Test.YthhojpplbhnnfaaGreatDoorX39
import Derived.Test.YthhojpplbhnnfaaGreatDoorX40
import Derived.Test.YthhojpplbhnnfaaGreatDoorX41
import Derived.Test.YthhojpplbhnnfaaGreatDoorX42
import Derived.Test.YthhojpplbhnnfaaGreatDoorX43
import Derived.Test.YthhojpplbhnnfaaGreatDoorX44
import Derived.Test.YthhojpplbhnnfaaGreatDoorY01
import Derived.Test.YthhojpplbhnnfaaGreatDoorY02
import Derived.Test.YthhojpplbhnnfaaGreatDoorY03
import Derived.Test.YthhojpplbhnnfaaGreatDoorY04
namespace Go.Proofs.YthhojpplbhnnfaaGreatDoor
open Go.RowKit
open Go.Deep
open Go.Maps
set_option linter.unusedVariables false
def hW : Hd := ⟨0, (gH.at 1).id, zeros, 1600000005, 545259519, 0, Hd.id_len _, zeros_len⟩
theorem hW_0 : (hW.at 0).meets = false := by decide +kernel
theorem hW_1 : (hW.at 1).meets = false := by decide +kernel
theorem hW_2 : (hW.at 2).meets = false := by decide +kernel
theorem hW_3 : (hW.at 3).meets = false := by decide +kernel
theorem hW_4 : (hW.at 4).meets = false := by decide +kernel
theorem hW_5 : (hW.at 5).meets = true := by decide +kernel
theorem hW_id : (hW.at 5).id ≠ (gH.at 1).id := by decide +kernel
theorem wkG_lt : 0 < wkG ∧ wkG + wkG < M := by decide +kernel
theorem mineW : mineH hW 100000 = (hW.at 5, true) := by
  unfold mineH
  rw [if_pos (by decide +kernel)]
  refine mineT_yes hW 5 hW_5 _ _ (Nat.zero_le _) ?_ (fun i h1 h2 => ?_)
  · show 5 < 0 + (mnE hW 100000 - 0)
    decide +kernel
  · have : i = 0 ∨ i = 1 ∨ i = 2 ∨ i = 3 ∨ i = 4 := by omega
    rcases this with rfl | rfl | rfl | rfl | rfl
    · exact hW_0
    · exact hW_1
    · exact hW_2
    · exact hW_3
    · exact hW_4
theorem bld_hW (p : List UInt8) (hp : p.length = 32) (W : World) : (Instr.build 48 #[(1, .agg (hc p)), (3, .int .u32 1600000005), (4, .int .u32 545259519)]).run Tryz.prog W = .ok (.agg (⟨0, p, zeros, 1600000005, 545259519, 0, hp, zeros_len⟩ : Hd).cells.toArray) W := by
  obtain ⟨_, _, _, _, _, _, _, _, _, _, _, _, _, _, _, _, _, _, _, _, _, _, _, _, _, _, _, _, _, _, _, _, rfl⟩ := id32' p hp
  kernel_rfl
end Go.Proofs.YthhojpplbhnnfaaGreatDoor
namespace Go.Proofs.YthhojpplbhnnfaaGreatDoor
open Go.RowKit
open Go.Deep
open Go.Maps
set_option linter.unusedVariables false
set_option linter.unusedSimpArgs false
section
set_option maxRecDepth 10000
set_option maxHeartbeats 8000000
/-- The map and the nodes behind New. -/
def mG : DataW Unit := (DataW.map []).put (.string (gH.at 1).id) (.lit (.int .i64 0))
theorem add_awake {B w : World} {gt gm : Nat} {ve : Value} (h : Tm4 B w gt gm 1 mG ve [ndG] 1 0 0) (hK : Kg w) : Calls Tryz.prog 19 #[.pointer (some ⟨gt, 0, none⟩), .agg (hW.at 5).cells.toArray, .int .u32 1600000000] w fun e w' => e = .returned (.tuple #[.bool true, .int .i64 0]) ∧ ∃ v D n L, L.length = 2 ∧ Tm4 B w' gt gm n D v L 1 0 1 := by
  have hidx : (Lit.string (hW.at 5).id) ≠ Lit.string (gH.at 1).id := fun e => hW_id (by injection e)
  have p1 : (hW.at 5).prev = (gH.at 1).id := rfl
  refine add_ok h hK (hW.at 5) 1600000000 0 ((atKey_put_other hidx _ _).trans rfl) ((has_put_other hidx _).trans rfl) hW_5 0 (by rw [p1]; exact atG) (by rw [p1]; exact hasG) (fun w' => ∃ v D n L, L.length = 2 ∧ Tm4 B w' gt gm n D v L 1 0 1) (fun W q => ?_) (fun W q => ?_)
  · exact fits_ok q 0 (by simp) (by simp) rfl (hW.at 5) 1600000000 1600000000 (by omega)
      (fun W2 q2 => (asked_no q2 (by simp) 0 (by simp) (by decide) (by decide)).mono fun e w' ⟨h1, h2⟩ => ⟨h1, h2 ▸ Below.refl _ _⟩)
      (fun W2 q2 => median0 q2 (by simp) 0 (by simp) rfl) (by decide) (by decide)
  · refine (hang_ok q (by simp) (by omega) 0 (by simp) (by decide) (hW.at 5).id (Hd.id_len _) (hW.at 5) wkG wkG_lt.2 0 0 (fun W2 => work_yes 545259519 (by omega) (by decide +kernel) W2) (fun W2 => skip1 W2) (fun W2 q2 => anc_here q2 (by simp) 0 (by simp) 0 (Int.le_refl _)) 1 (fun W2 v q2 => ?_)).mono fun e w' ⟨h1, v, h2⟩ => ⟨h1, v, _, _, _, by simp, h2⟩
    exact weigh_lead q2 (by simp) 1 (by simp) (by simp) rfl rfl wkG_lt.2 (by have := wkG_lt.2; show wkG < M; omega) (by have := wkG_lt.1; show wkG < wkG + wkG; omega)
theorem awake14 (w : World) (hK : Kg w) : Calls Tryz.prog 10 #[] w fun e w' => e = .returned (.bool true) ∧ Below w.heap.size w w' := by
  have HN : Hid (Calls Tryz.prog 8 #[] w fun e w' => ∃ gt gm ve, e = .returned (.pointer (some ⟨gt, 0, none⟩)) ∧ Tm4 w w' gt gm 1 mG ve [ndG] 1 0 0) := newT_any w hK
  have KS : Hid (∀ W, Below w.heap.size w W → Kg W) := fun W b => hK.next b
  have HL : Hid (∀ W gt gm ve, Tm4 w W gt gm 1 mG ve [ndG] 1 0 0 → Calls Tryz.prog 28 #[.pointer (some ⟨gt, 0, none⟩)] W fun e w' => e = .returned (.int .i64 1) ∧ w' = W) := fun W gt gm ve q => lenT_any q
  have HL2 : Hid (∀ W gt gm ve D n (L : List Tno), L.length = 2 → Tm4 w W gt gm n D ve L 1 0 1 → Calls Tryz.prog 28 #[.pointer (some ⟨gt, 0, none⟩)] W fun e w' => e = .returned (.int .i64 2) ∧ w' = W) := fun W gt gm ve D n L e q => by
    have := lenT_any q
    rw [e] at this
    exact this
  have HB : Hid (∀ W gt gm ve, Tm4 w W gt gm 1 mG ve [ndG] 1 0 0 → Calls Tryz.prog 17 #[.pointer (some ⟨gt, 0, none⟩)] W fun e w' => e = .returned (.agg (hc (gH.at 1).id)) ∧ Below W.heap.size W w') := fun W gt gm ve q => bestT_any q (by simp) (by simp)
  have HM : Hid (∀ W, Kg W → Calls Tryz.prog 34 #[.agg hW.cells.toArray, .int .u64 100000] W fun e w' => e = .returned (.tuple #[.agg (hW.at 5).cells.toArray, .bool true]) ∧ Below W.heap.size W w') := fun W q => by
    have := mine_any hW 100000 (by omega) W q
    rw [mineW] at this
    exact this
  have HA : Hid (∀ W gt gm ve, Tm4 w W gt gm 1 mG ve [ndG] 1 0 0 → Calls Tryz.prog 19 #[.pointer (some ⟨gt, 0, none⟩), .agg (hW.at 5).cells.toArray, .int .u32 1600000000] W fun e w' => e = .returned (.tuple #[.bool true, .int .i64 0]) ∧ ∃ v D n L, L.length = 2 ∧ Tm4 w w' gt gm n D v L 1 0 1) := fun W gt gm ve q => add_awake q (hK.next q.bel)
  have BH : Hid (∀ W, (Instr.build 48 #[(1, .agg (hc (gH.at 1).id)), (3, .int .u32 1600000005), (4, .int .u32 545259519)]).run Tryz.prog W = .ok (.agg hW.cells.toArray) W) := fun W => bld_hW _ (Hd.id_len _) W
  have CZ := hide (And.intro (hW.at 5).size (hW.at 5).all)
  clear hK
  generalize hc (gH.at 1).id = ID at *
  generalize (hW.at 5).cells.toArray = C5 at *
  generalize hW.cells.toArray = C0 at *
  generalize mG = DD at *
  generalize ndG = NG at *
  go_enter Tryz.func10, Tryz.ntmps10
  go_upto_region 2 with (go_at_call 8; refine HN.out.mono ?_; rintro e W1 ⟨gt, gm, ve, rfl, t1⟩; have T1 := hide t1; clear t1)
  go_upto_region 4 with (go_at_call 28; refine (HL.out _ _ _ _ T1.out).mono ?_; rintro e W2 ⟨rfl, hq⟩; subst W2)
  go_upto_region 5 with (first | (go_at_call 17; refine (HB.out _ _ _ _ T1.out).mono ?_; rintro e W2 ⟨rfl, be⟩; have D2 := hide be; clear be) | (go_at_call 34; refine (HM.out _ (KS.out _ (T1.out.next D2.out).bel)).mono ?_; rintro e W3 ⟨rfl, be⟩; have D3 := hide (below_next D2.out be); clear be) | ((with_reducible refine at_list ?_); first | refine wpList_bldX rfl _ rfl #[(1, .agg ID), (3, .int .u32 1600000005), (4, .int .u32 545259519)] C0 (by simp only [List.map_toArray, List.map_cons, List.map_nil]; rfl) BH.out ?_ | refine wpList_allocA AHd rfl rfl ?_ | refine wpList_store_newA AHd rfl _ _ rfl _ rfl C5 CZ.out.1 CZ.out.2 rfl rfl ?_))
  have b4 := (Below.refl W3.heap.size W3).alloc (Nat.le_refl _) (.cells C5 48)
  have T4 := hide (T1.out.next (below_next D3.out b4))
  have R4 := hide (heap_alloc_last W3 (.cells C5 48))
  clear b4 D2 D3 T1
  generalize W3.alloc (.cells C5 48) = W4 at *
  generalize W3.heap.size = g2 at *
  go_upto_region 6 with (first | (go_at_call 19; refine (HA.out _ _ _ _ T4.out).mono ?_; rintro e W5 ⟨rfl, v5, D5, n5, L5, l5, t5⟩; have T5 := hide t5; have LE5 := hide l5; clear t5 l5) | ((with_reducible refine at_list ?_); refine wpList_loadS AHd _ rfl g2 rfl C5 CZ.out.1 48 R4.out (by rfl) ?_))
  clear T4 R4
  go_wp2_with (go_at_call 28; refine (HL2.out _ _ _ _ _ _ _ LE5.out T5.out).mono ?_; rintro e W6 ⟨rfl, hq⟩; subst W6)
  go_ret
  exact ⟨rfl, T5.out.bel⟩
end
end Go.Proofs.YthhojpplbhnnfaaGreatDoor
